package tests

import (
	"math"
	"strings"
	"testing"

	"loop.example/g00413/impl"
)

// Promise 1, the fields of digits: PutOct, PutHex, PutDec, PutBig and what reads them.

type putCase struct {
	n     int
	width int
	want  string
	ok    bool
}

type getCase struct {
	s    string
	want int
	ok   bool
}

func checkPut(t *testing.T, name string, put func(int, int) (string, bool), cases []putCase) {
	t.Helper()
	for _, c := range cases {
		if got, ok := put(c.n, c.width); got != c.want || ok != c.ok {
			t.Errorf("%s(%d, %d) = %q, %v; want %q, %v", name, c.n, c.width, got, ok, c.want, c.ok)
		}
	}
}

func checkGet(t *testing.T, name string, get func(string) (int, bool), cases []getCase) {
	t.Helper()
	for _, c := range cases {
		if got, ok := get(c.s); got != c.want || ok != c.ok {
			t.Errorf("%s(%q) = %d, %v; want %d, %v", name, c.s, got, ok, c.want, c.ok)
		}
	}
}

// putHex has the shape of the other writers; the width of its field is fixed.
func putHex(n int, width int) (string, bool) {
	return impl.PutHex(n)
}

// someNumbers holds small numbers and the neighbours of the powers at which a number gains a digit.
func someNumbers() []int {
	list := []int{math.MinInt, math.MinInt + 1, -1 << 32, -65537, -65536, -65535, -256, -2, -1, math.MaxInt - 1, math.MaxInt}
	for n := range 300 {
		list = append(list, n)
	}
	for _, base := range []int{8, 10, 256} {
		for n := base; n > 0 && n <= 1<<60/base; n *= base {
			list = append(list, n-1, n, n+1)
		}
	}
	return append(list, impl.MaxNum-1, impl.MaxNum, impl.MaxNum+1)
}

// digitCount counts the digits of n by division, not as the program does.
func digitCount(n int, base int) int {
	count := 1
	for n >= base {
		n /= base
		count++
	}
	return count
}

func TestPutOct(t *testing.T) {
	checkPut(t, "PutOct", impl.PutOct, []putCase{
		{420, 7, "0000644", true},
		{0, 1, "0", true},
		{0, 20, "00000000000000000000", true},
		{7, 1, "7", true},
		{8, 1, "", false},
		{8, 2, "10", true},
		{511, 3, "777", true},
		{512, 3, "", false},
		{impl.MaxNum, 20, "00377777777777777777", true},
		{impl.MaxNum, 18, "377777777777777777", true},
		{impl.MaxNum, 17, "", false},
		{impl.MaxNum + 1, 20, "", false},
		{-1, 7, "", false},
		{math.MinInt, 20, "", false},
		{math.MaxInt, 20, "", false},
		{0, 0, "", false},
		{0, 21, "", false},
		{0, -1, "", false},
		{1, math.MinInt, "", false},
		{1, math.MaxInt, "", false},
	})
}

func TestGetOct(t *testing.T) {
	checkGet(t, "GetOct", impl.GetOct, []getCase{
		{"0000644", 420, true},
		{"0", 0, true},
		{"00", 0, true},
		{"7", 7, true},
		{"00000000000000000000", 0, true},
		{"00000000000000000017", 15, true},
		{"377777777777777777", impl.MaxNum, true},
		{"00377777777777777777", impl.MaxNum, true},
		{"00400000000000000000", 0, false},
		{"77777777777777777777", 0, false},
		{"000000000000000000000", 0, false},
		{"777777777777777777777", 0, false},
		{strings.Repeat("0", 1000) + "7", 0, false},
		{"", 0, false},
		{"8", 0, false},
		{"9", 0, false},
		{"18", 0, false},
		{"1 ", 0, false},
		{" 1", 0, false},
		{"1\x00", 0, false},
		{"-1", 0, false},
		{"+1", 0, false},
		{"0o7", 0, false},
		{"1_7", 0, false},
		{"a", 0, false},
		{"/", 0, false},
		{"\xff", 0, false},
	})
}

func TestPutHex(t *testing.T) {
	checkPut(t, "PutHex", putHex, []putCase{
		{48879, 8, "0000beef", true},
		{0, 8, "00000000", true},
		{1, 8, "00000001", true},
		{15, 8, "0000000f", true},
		{16, 8, "00000010", true},
		{0x89abcdef, 8, "89abcdef", true},
		{4294967295, 8, "ffffffff", true},
		{4294967296, 8, "", false},
		{impl.MaxNum, 8, "", false},
		{-1, 8, "", false},
		{math.MinInt, 8, "", false},
		{math.MaxInt, 8, "", false},
	})
}

func TestGetHex(t *testing.T) {
	checkGet(t, "GetHex", impl.GetHex, []getCase{
		{"0000beef", 48879, true},
		{"00000000", 0, true},
		{"01234567", 0x01234567, true},
		{"89abcdef", 0x89abcdef, true},
		{"ffffffff", 4294967295, true},
		{"0000BEEF", 0, false},
		{"0000beeF", 0, false},
		{"", 0, false},
		{"000beef", 0, false},
		{"00000beef", 0, false},
		{"0000000g", 0, false},
		{"g0000000", 0, false},
		{"       1", 0, false},
		{"1       ", 0, false},
		{"-0000001", 0, false},
		{"+0000001", 0, false},
		{"0x000001", 0, false},
		{"0000000\x00", 0, false},
		{"0000000\xff", 0, false},
	})
}

func TestPutDec(t *testing.T) {
	checkPut(t, "PutDec", impl.PutDec, []putCase{
		{12, 5, "12   ", true},
		{0, 1, "0", true},
		{0, 20, "0                   ", true},
		{9, 1, "9", true},
		{10, 1, "", false},
		{999, 3, "999", true},
		{1000, 3, "", false},
		{impl.MaxNum, 16, "9007199254740991", true},
		{impl.MaxNum, 20, "9007199254740991    ", true},
		{impl.MaxNum, 15, "", false},
		{impl.MaxNum + 1, 20, "", false},
		{-1, 5, "", false},
		{math.MinInt, 20, "", false},
		{math.MaxInt, 20, "", false},
		{0, 0, "", false},
		{0, 21, "", false},
		{0, -1, "", false},
		{1, math.MinInt, "", false},
		{1, math.MaxInt, "", false},
	})
}

func TestGetDec(t *testing.T) {
	checkGet(t, "GetDec", impl.GetDec, []getCase{
		{"12   ", 12, true},
		{"0", 0, true},
		{"0  ", 0, true},
		{"10", 10, true},
		{"0                   ", 0, true},
		{"9007199254740991", impl.MaxNum, true},
		{"9007199254740991    ", impl.MaxNum, true},
		{"9007199254740992", 0, false},
		{"9007199254740992    ", 0, false},
		{"90071992547409910   ", 0, false},
		{"99999999999999999999", 0, false},
		{"0                    ", 0, false},
		{"12                   ", 0, false},
		{"", 0, false},
		{" ", 0, false},
		{"    ", 0, false},
		{"012", 0, false},
		{"00", 0, false},
		{"00 ", 0, false},
		{" 12", 0, false},
		{"12 1", 0, false},
		{"1 2 ", 0, false},
		{"-1", 0, false},
		{"+1", 0, false},
		{"1a", 0, false},
		{"a", 0, false},
		{"1\x00", 0, false},
		{"1\n", 0, false},
		{"1\t ", 0, false},
		{"1_0", 0, false},
	})
}

func TestPutBig(t *testing.T) {
	checkPut(t, "PutBig", impl.PutBig, []putCase{
		{258, 4, "\x80\x00\x01\x02", true},
		{0, 2, "\x80\x00", true},
		{255, 2, "\x80\xff", true},
		{256, 2, "", false},
		{256, 3, "\x80\x01\x00", true},
		{impl.MaxNum, 8, "\x80\x1f\xff\xff\xff\xff\xff\xff", true},
		{impl.MaxNum, 7, "", false},
		{impl.MaxNum, 20, "\x80" + strings.Repeat("\x00", 12) + "\x1f\xff\xff\xff\xff\xff\xff", true},
		{impl.MaxNum + 1, 20, "", false},
		{0, 20, "\x80" + strings.Repeat("\x00", 19), true},
		{0, 21, "", false},
		{0, 1, "", false},
		{0, 0, "", false},
		{0, -1, "", false},
		{-1, 8, "", false},
		{math.MinInt, 20, "", false},
		{math.MaxInt, 20, "", false},
		{1, math.MinInt, "", false},
		{1, math.MaxInt, "", false},
	})
}

func TestGetBig(t *testing.T) {
	checkGet(t, "GetBig", impl.GetBig, []getCase{
		{"\x80\x00\x01\x02", 258, true},
		{"\x80\x00", 0, true},
		{"\x80\xff", 255, true},
		{"\x80\x80", 128, true},
		{"\x80\x1f\xff\xff\xff\xff\xff\xff", impl.MaxNum, true},
		{"\x80" + strings.Repeat("\x00", 12) + "\x1f\xff\xff\xff\xff\xff\xff", impl.MaxNum, true},
		{"\x80" + strings.Repeat("\x00", 19), 0, true},
		{"\x80\x20\x00\x00\x00\x00\x00\x00", 0, false},
		{"\x80\xff\xff\xff\xff\xff\xff\xff\xff", 0, false},
		{"\x80" + strings.Repeat("\xff", 19), 0, false},
		{"\x80\x01" + strings.Repeat("\x00", 8), 0, false},
		{"\x80\x01" + strings.Repeat("\x00", 18), 0, false},
		{"\x80" + strings.Repeat("\x00", 20), 0, false},
		{"", 0, false},
		{"\x80", 0, false},
		{"\x00\x01", 0, false},
		{"\x7f\x01", 0, false},
		{"\x81\x01", 0, false},
		{"\xff\xff", 0, false},
		{"01", 0, false},
	})
}

// Every number comes back from every field that has room for it, and is written into no other.
func TestNumberComesBack(t *testing.T) {
	kinds := []struct {
		name string
		put  func(int, int) (string, bool)
		get  func(string) (int, bool)
		base int
		mark int
	}{
		{"Oct", impl.PutOct, impl.GetOct, 8, 0},
		{"Dec", impl.PutDec, impl.GetDec, 10, 0},
		{"Big", impl.PutBig, impl.GetBig, 256, 1},
	}
	for _, k := range kinds {
		for _, n := range someNumbers() {
			for width := -2; width <= 23; width++ {
				s, ok := k.put(n, width)
				room := n >= 0 && n <= impl.MaxNum && width > k.mark && width <= 20 && digitCount(n, k.base)+k.mark <= width
				if ok != room {
					t.Fatalf("Put%s(%d, %d) is %v, want %v", k.name, n, width, ok, room)
				}
				if !ok && s != "" || ok && len(s) != width {
					t.Fatalf("Put%s(%d, %d) = %q", k.name, n, width, s)
				}
				if got, back := k.get(s); ok && (got != n || !back) {
					t.Fatalf("Get%s(%q) = %d, %v, want %d", k.name, s, got, back, n)
				}
			}
		}
	}
}

func TestHexComesBack(t *testing.T) {
	for _, n := range someNumbers() {
		s, ok := impl.PutHex(n)
		if room := n >= 0 && n <= 4294967295; ok != room || !ok && s != "" {
			t.Fatalf("PutHex(%d) = %q, %v", n, s, ok)
		}
		if got, back := impl.GetHex(s); ok && (got != n || !back) {
			t.Fatalf("GetHex(%q) = %d, %v, want %d", s, got, back, n)
		}
	}
}

// all returns every string of the given length over the bytes of letters.
func all(letters string, length int) []string {
	list := []string{""}
	for range length {
		var longer []string
		for _, s := range list {
			for i := range len(letters) {
				longer = append(longer, s+letters[i:i+1])
			}
		}
		list = longer
	}
	return list
}

func everyByte() string {
	list := make([]byte, 256)
	for i := range list {
		list[i] = byte(i)
	}
	return string(list)
}

// onlyWritten fails unless get accepts, among the strings, just those that put writes for a number below limit.
func onlyWritten(t *testing.T, name string, list []string, limit int, put func(int, int) (string, bool), get func(string) (int, bool)) {
	t.Helper()
	written := map[string]int{}
	for n := range limit {
		if s, ok := put(n, len(list[0])); ok {
			written[s] = n
		}
	}
	accepted := 0
	for _, s := range list {
		n, ok := get(s)
		want, wanted := written[s]
		if ok != wanted || n != want {
			t.Fatalf("%s(%q) = %d, %v; want %d, %v", name, s, n, ok, want, wanted)
		}
		if ok {
			accepted++
		}
	}
	if accepted == 0 {
		t.Fatalf("%s accepts nothing", name)
	}
}

func TestNoOtherStringIsAccepted(t *testing.T) {
	letters := "0123456789 afAF-+\x00\x80\xff"
	for length := 1; length <= 3; length++ {
		list := all(letters, length)
		onlyWritten(t, "GetOct", list, 1000, impl.PutOct, impl.GetOct)
		onlyWritten(t, "GetDec", list, 1000, impl.PutDec, impl.GetDec)
	}
	pairs := all(everyByte(), 2)
	onlyWritten(t, "GetOct", pairs, 100, impl.PutOct, impl.GetOct)
	onlyWritten(t, "GetDec", pairs, 100, impl.PutDec, impl.GetDec)
	onlyWritten(t, "GetBig", pairs, 256, impl.PutBig, impl.GetBig)
	checkEveryBigTriple(t)
}

func checkEveryBigTriple(t *testing.T) {
	t.Helper()
	var triples []string
	for _, first := range []string{"\x00", "\x7f", "\x80", "\x81", "\xff"} {
		for _, s := range all("\x00\x01\x7f\x80\xff", 2) {
			triples = append(triples, first+s)
		}
	}
	onlyWritten(t, "GetBig", triples, 65536, impl.PutBig, impl.GetBig)
}

// A wrong byte at any place of a field is refused.
func TestHexWrongByte(t *testing.T) {
	for at := range 8 {
		for i := range 256 {
			c := byte(i)
			s := "0000000"[:at] + string([]byte{c}) + "0000000"[at:]
			want := strings.IndexByte("0123456789abcdef", c)
			n, ok := impl.GetHex(s)
			if ok != (want >= 0) || ok && n != want<<(4*(7-at)) || !ok && n != 0 {
				t.Fatalf("GetHex(%q) = %d, %v", s, n, ok)
			}
		}
	}
}

// The conventions: a call answers whatever it is given, and a result beside false is the zero value.
func TestFieldsAnswerAnything(t *testing.T) {
	texts := []string{"", "\x00", "\xff\xfe", strings.Repeat("9", 5000), strings.Repeat("0", 5000), strings.Repeat(" ", 5000), "\x80" + strings.Repeat("\xff", 5000), "é", "٣"}
	for _, get := range []func(string) (int, bool){impl.GetOct, impl.GetHex, impl.GetDec, impl.GetBig} {
		for _, s := range texts {
			if n, ok := get(s); n != 0 || ok {
				t.Errorf("%q is accepted as %d, %v", s, n, ok)
			}
		}
	}
	for _, put := range []func(int, int) (string, bool){impl.PutOct, impl.PutDec, impl.PutBig} {
		for _, width := range []int{math.MinInt, math.MinInt + 1, -1, 0, 21, 22, 1 << 40, math.MaxInt - 1, math.MaxInt} {
			for _, n := range someNumbers() {
				if s, ok := put(n, width); s != "" || ok {
					t.Errorf("%d in a field of %d bytes is written as %q, %v", n, width, s, ok)
				}
			}
		}
	}
}
