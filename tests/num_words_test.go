package tests

import (
	"math"
	"slices"
	"strconv"
	"strings"
	"testing"
	"unsafe"

	"loop.example/g00413/impl"
)

// Promise 1, the binary numbers, and the helpers of chapter 1.

func TestPut16(t *testing.T) {
	cases := []struct {
		n         int
		high, low string
	}{
		{0, "\x00\x00", "\x00\x00"},
		{1, "\x00\x01", "\x01\x00"},
		{258, "\x01\x02", "\x02\x01"},
		{65535, "\xff\xff", "\xff\xff"},
		{65536, "\x00\x00", "\x00\x00"},
		{65536 + 258, "\x01\x02", "\x02\x01"},
		{-1, "\xff\xff", "\xff\xff"},
		{-2, "\xff\xfe", "\xfe\xff"},
		{-65535, "\x00\x01", "\x01\x00"},
		{-65536, "\x00\x00", "\x00\x00"},
		{-65537, "\xff\xff", "\xff\xff"},
		{math.MaxInt, "\xff\xff", "\xff\xff"},
		{math.MinInt, "\x00\x00", "\x00\x00"},
		{math.MinInt + 258, "\x01\x02", "\x02\x01"},
	}
	for _, c := range cases {
		if got := impl.Put16(c.n, true); got != c.high {
			t.Errorf("Put16(%d, true) = %q, want %q", c.n, got, c.high)
		}
		if got := impl.Put16(c.n, false); got != c.low {
			t.Errorf("Put16(%d, false) = %q, want %q", c.n, got, c.low)
		}
	}
}

func TestPut32(t *testing.T) {
	cases := []struct {
		n         int
		high, low string
	}{
		{0, "\x00\x00\x00\x00", "\x00\x00\x00\x00"},
		{1, "\x00\x00\x00\x01", "\x00\x00\x01\x00"},
		{65536, "\x00\x01\x00\x00", "\x01\x00\x00\x00"},
		{16909060, "\x01\x02\x03\x04", "\x02\x01\x04\x03"},
		{4294967295, "\xff\xff\xff\xff", "\xff\xff\xff\xff"},
		{4294967296, "\x00\x00\x00\x00", "\x00\x00\x00\x00"},
		{4294967296 + 16909060, "\x01\x02\x03\x04", "\x02\x01\x04\x03"},
		{-1, "\xff\xff\xff\xff", "\xff\xff\xff\xff"},
		{-2, "\xff\xff\xff\xfe", "\xff\xff\xfe\xff"},
		{-65536, "\xff\xff\x00\x00", "\xff\xff\x00\x00"},
		{-65537, "\xff\xfe\xff\xff", "\xfe\xff\xff\xff"},
		{-4294967296, "\x00\x00\x00\x00", "\x00\x00\x00\x00"},
		{-4294967295, "\x00\x00\x00\x01", "\x00\x00\x01\x00"},
		{math.MaxInt, "\xff\xff\xff\xff", "\xff\xff\xff\xff"},
		{math.MinInt, "\x00\x00\x00\x00", "\x00\x00\x00\x00"},
	}
	for _, c := range cases {
		if got := impl.Put32(c.n, true); got != c.high {
			t.Errorf("Put32(%d, true) = %q, want %q", c.n, got, c.high)
		}
		if got := impl.Put32(c.n, false); got != c.low {
			t.Errorf("Put32(%d, false) = %q, want %q", c.n, got, c.low)
		}
	}
}

// remainder is the non-negative remainder of the document.
func remainder(n int, by int) int {
	return (n%by + by) % by
}

func TestWordComesBack(t *testing.T) {
	for _, n := range someNumbers() {
		for _, high := range []bool{false, true} {
			short, long := impl.Put16(n, high), impl.Put32(n, high)
			if len(short) != 2 || len(long) != 4 {
				t.Fatalf("%d is written as %q and %q", n, short, long)
			}
			if want := impl.Put16(n>>16, high) + short; long != want {
				t.Fatalf("Put32(%d, %v) = %q, want %q", n, high, long, want)
			}
			if got := impl.Get16("x"+short+"y", 1, high); got != remainder(n, 65536) {
				t.Fatalf("Get16 of %d is %d", n, got)
			}
			if got := impl.Get32("x"+long+"y", 1, high); got != remainder(n, 4294967296) {
				t.Fatalf("Get32 of %d is %d", n, got)
			}
		}
	}
}

// Every pair of bytes is the one number that Put16 writes so.
func TestEveryPairOfBytes(t *testing.T) {
	for _, s := range all(everyByte(), 2) {
		for _, high := range []bool{false, true} {
			n := impl.Get16(s, 0, high)
			if n < 0 || n > 65535 || impl.Put16(n, high) != s {
				t.Fatalf("Get16(%q, 0, %v) = %d", s, high, n)
			}
		}
	}
}

func TestGetAtIndex(t *testing.T) {
	s := "\x01\x02\x03\x04\x05\x06"
	cases := []struct {
		at                           int
		high16, low16, high32, low32 int
	}{
		{0, 0x0102, 0x0201, 0x01020304, 0x02010403},
		{1, 0x0203, 0x0302, 0x02030405, 0x03020504},
		{2, 0x0304, 0x0403, 0x03040506, 0x04030605},
		{3, 0x0405, 0x0504, -1, -1},
		{4, 0x0506, 0x0605, -1, -1},
		{5, -1, -1, -1, -1},
		{6, -1, -1, -1, -1},
		{7, -1, -1, -1, -1},
		{-1, -1, -1, -1, -1},
		{-2, -1, -1, -1, -1},
		{-6, -1, -1, -1, -1},
		{math.MaxInt, -1, -1, -1, -1},
		{math.MaxInt - 1, -1, -1, -1, -1},
		{math.MaxInt - 3, -1, -1, -1, -1},
		{math.MinInt, -1, -1, -1, -1},
	}
	for _, c := range cases {
		got := []int{impl.Get16(s, c.at, true), impl.Get16(s, c.at, false), impl.Get32(s, c.at, true), impl.Get32(s, c.at, false)}
		if want := []int{c.high16, c.low16, c.high32, c.low32}; !slices.Equal(got, want) {
			t.Errorf("at %d: %x, want %x", c.at, got, want)
		}
	}
}

func TestGetFromShortString(t *testing.T) {
	for _, high := range []bool{false, true} {
		for length := range 4 {
			s := strings.Repeat("a", length)
			for at := -1; at <= 4; at++ {
				if got := impl.Get32(s, at, high); got != -1 {
					t.Errorf("Get32(%q, %d, %v) = %d", s, at, high, got)
				}
				if got := impl.Get16(s, at, high); (got == -1) != (at < 0 || at+2 > length) {
					t.Errorf("Get16(%q, %d, %v) = %d", s, at, high, got)
				}
			}
		}
	}
	if got := impl.Get32("\xff\xff\xff\xff", 0, false); got != 4294967295 {
		t.Errorf("the greatest number is read as %d", got)
	}
}

func TestSumOf(t *testing.T) {
	cases := []struct {
		s    string
		want int
	}{
		{"", 0},
		{"\x00\x00", 0},
		{"a", 97},
		{"a\xff", 352},
		{"é", 0xc3 + 0xa9},
		{everyByte(), 255 * 256 / 2},
		{strings.Repeat("\xff", 100000), 25500000},
	}
	for _, c := range cases {
		if got := impl.SumOf(c.s); got != c.want {
			t.Errorf("SumOf of %d bytes is %d, want %d", len(c.s), got, c.want)
		}
	}
}

func TestPad(t *testing.T) {
	cases := []struct{ n, unit, want int }{
		{513, 512, 511},
		{512, 512, 0},
		{511, 512, 1},
		{1, 512, 511},
		{0, 512, 0},
		{5, 1, 0},
		{0, 1, 0},
		{3, 2, 1},
		{5, 4, 3},
		{impl.MaxNum, 512, 1},
		{impl.MaxNum, 1, 0},
		{impl.MaxNum + 1, 512, 0},
		{impl.MaxNum + 2, 512, 0},
		{math.MaxInt, 512, 0},
		{-1, 4, 0},
		{-511, 512, 0},
		{math.MinInt, 3, 0},
		{1, 0, 0},
		{1, 513, 0},
		{1, -1, 0},
		{1, -4, 0},
		{1, math.MinInt, 0},
		{1, math.MaxInt, 0},
	}
	for _, c := range cases {
		if got := impl.Pad(c.n, c.unit); got != c.want {
			t.Errorf("Pad(%d, %d) = %d, want %d", c.n, c.unit, got, c.want)
		}
	}
	for unit := 1; unit <= 512; unit++ {
		for n := range 1100 {
			if got := impl.Pad(n, unit); got < 0 || got >= unit || (n+got)%unit != 0 {
				t.Fatalf("Pad(%d, %d) = %d", n, unit, got)
			}
		}
	}
}

func TestFill(t *testing.T) {
	long := strings.Repeat("x", 2000)
	cases := []struct {
		s     string
		width int
		want  string
	}{
		{"ab", 4, "ab\x00\x00"},
		{"ab", 3, "ab\x00"},
		{"ab", 2, "ab"},
		{"abc", 2, "abc"},
		{"abc", 0, "abc"},
		{"abc", -1, "abc"},
		{"abc", math.MinInt, "abc"},
		{"", 0, ""},
		{"", -1, ""},
		{"", 2, "\x00\x00"},
		{"a\x00", 3, "a\x00\x00"},
		{"ab", 1024, "ab" + strings.Repeat("\x00", 1022)},
		{"", 1024, strings.Repeat("\x00", 1024)},
		{"ab", 1025, "ab"},
		{"", 1025, ""},
		{"ab", math.MaxInt, "ab"},
		{long, 1024, long},
		{long, 2000, long},
		{long, 2001, long},
	}
	for _, c := range cases {
		if got := impl.Fill(c.s, c.width); got != c.want {
			t.Errorf("Fill of %d bytes to %d has %d bytes, want %d", len(c.s), c.width, len(got), len(c.want))
		}
	}
}

func TestCut(t *testing.T) {
	cases := []struct{ s, want string }{
		{"ab\x00c", "ab"},
		{"ab\x00c\x00d", "ab"},
		{"ab", "ab"},
		{"ab\x00", "ab"},
		{"\x00ab", ""},
		{"\x00", ""},
		{"", ""},
		{"a0b", "a0b"},
		{"\xff\x00", "\xff"},
	}
	for _, c := range cases {
		if got := impl.Cut(c.s); got != c.want {
			t.Errorf("Cut(%q) = %q, want %q", c.s, got, c.want)
		}
	}
}

func TestDecText(t *testing.T) {
	cases := []struct {
		n    int
		want string
	}{
		{0, "0"},
		{7, "7"},
		{100, "100"},
		{-1, "-1"},
		{-120, "-120"},
		{impl.MaxNum, "9007199254740991"},
		{math.MaxInt, "9223372036854775807"},
		{math.MinInt, "-9223372036854775808"},
	}
	for _, c := range cases {
		if got := impl.DecText(c.n); got != c.want {
			t.Errorf("DecText(%d) = %q, want %q", c.n, got, c.want)
		}
	}
}

func TestReadDec(t *testing.T) {
	cases := []struct {
		s    string
		want int
	}{
		{"12", 12},
		{"0", 0},
		{"9", 9},
		{"999999", 999999},
		{"1000000", -1},
		{"9007199254740991", -1},
		{"18446744073709551617", -1},
		{strings.Repeat("9", 5000), -1},
		{strings.Repeat("0", 5000), -1},
		{"", -1},
		{"012", -1},
		{"00", -1},
		{"0999999", -1},
		{" 12", -1},
		{"12 ", -1},
		{"1 2", -1},
		{"-1", -1},
		{"-0", -1},
		{"+1", -1},
		{"a", -1},
		{"1a", -1},
		{"1.0", -1},
		{"1_0", -1},
		{"0x1", -1},
		{"1\x00", -1},
		{"1\n", -1},
		{"\xff", -1},
	}
	for _, c := range cases {
		if got := impl.ReadDec(c.s); got != c.want {
			t.Errorf("ReadDec(%q) = %d, want %d", c.s, got, c.want)
		}
	}
	for n := range 1000000 {
		if got := impl.ReadDec(impl.DecText(n)); got != n {
			t.Fatalf("ReadDec of the text of %d is %d", n, got)
		}
	}
	for length := range 4 {
		for _, s := range all("0123456789 -+a\x00", length) {
			want, err := strconv.Atoi(s)
			if err != nil || strconv.Itoa(want) != s || want < 0 {
				want = -1
			}
			if got := impl.ReadDec(s); got != want {
				t.Fatalf("ReadDec(%q) = %d, want %d", s, got, want)
			}
		}
	}
}

func TestWords(t *testing.T) {
	cases := []struct {
		s    string
		want []string
	}{
		{"", []string{""}},
		{" ", []string{"", ""}},
		{"  ", []string{"", "", ""}},
		{"a", []string{"a"}},
		{"a b", []string{"a", "b"}},
		{"a  b", []string{"a", "", "b"}},
		{" a ", []string{"", "a", ""}},
		{"a\tb\nc\x00d\u00a0e", []string{"a\tb\nc\x00d\u00a0e"}},
		{"\xff \xfe", []string{"\xff", "\xfe"}},
	}
	for _, c := range cases {
		got := impl.Words(c.s)
		if !slices.Equal(got, c.want) {
			t.Errorf("Words(%q) = %q, want %q", c.s, got, c.want)
		}
	}
	for length := range 7 {
		for _, s := range all("a ", length) {
			got := impl.Words(s)
			if len(got) != strings.Count(s, " ")+1 || strings.Join(got, " ") != s {
				t.Fatalf("Words(%q) = %q", s, got)
			}
		}
	}
}

// overlaps reports whether both strings have bytes in the same place.
func overlaps(a string, b string) bool {
	if a == "" || b == "" {
		return false
	}
	first := uintptr(unsafe.Pointer(unsafe.StringData(a)))
	second := uintptr(unsafe.Pointer(unsafe.StringData(b)))
	return first < second+uintptr(len(b)) && second < first+uintptr(len(a))
}

// The conventions: a result shares no memory with an argument, and nothing is kept between calls.
func TestResultsAreNewMemory(t *testing.T) {
	for _, text := range []string{"alone", "one two three", "one\x00two"} {
		// Long enough for the heap: a string on the stack is copied by the runtime where one on the heap is shared.
		s := strings.Repeat(text, 10)
		results := append(impl.Words(s), impl.Cut(s), impl.Fill(s, 3), impl.Fill(s, len(s)), impl.Fill(s, 1000), impl.Fill(s, 1025))
		for _, r := range results {
			if overlaps(r, s) {
				t.Errorf("%q lies in the argument", r)
			}
		}
		if !overlaps(s[1:3], s) {
			t.Error("overlaps tells nothing")
		}
	}
	first := impl.Words("a b")
	first[0] = "changed"
	if again := impl.Words("a b"); !slices.Equal(again, []string{"a", "b"}) {
		t.Errorf("a result is kept: %q", again)
	}
}
