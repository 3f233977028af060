package tests

import (
	"encoding/binary"
	"fmt"
	"math"
	"slices"
	"strings"
	"testing"

	"loop.example/g00413/impl"
)

// Promise 6, the header: PutLong, and GetLong of what it wrote.

// inBinary returns a number in the form of PutBig, in other words than the program does.
func inBinary(n int, width int) string {
	field := binary.BigEndian.AppendUint64(make([]byte, 12), uint64(n))
	return "\x80" + string(field[len(field)-width+1:])
}

// longNumber returns a number as it stands in a header with that many digits.
func longNumber(n int, digits int) string {
	if n >= 1<<(3*digits) {
		return inBinary(n, digits+1)
	}
	return fmt.Sprintf("%0*o\x00", digits, n)
}

// longHeadOf returns the header of an entry, valid or not, in other words than the program does.
func longHeadOf(e impl.Entry, flag string, size int) string {
	text := func(s string, width int) string { return (s + strings.Repeat("\x00", width))[:width] }
	return sealed(text(e.Path, 100) +
		fmt.Sprintf("%07o\x00", e.Mode) + longNumber(e.Uid, 7) + longNumber(e.Gid, 7) + fmt.Sprintf("%011o\x00", size) + longNumber(e.Time, 11) +
		"????????" + flag + text(e.Link, 100) + "ustar  \x00" + text(e.User, 32) + text(e.Group, 32) +
		"0000000\x000000000\x00" + strings.Repeat("\x00", 167))
}

// asReadLong returns what GetLong tells of an entry.
func asReadLong(e impl.Entry) impl.Entry {
	e.Path = e.Path[:min(len(e.Path), 100)]
	e.Link = e.Link[:min(len(e.Link), 100)]
	return asRead(e)
}

func checkLong(t *testing.T, header string, entry impl.Entry, flag string, size int) {
	t.Helper()
	for _, behind := range []string{"", "\x00", strings.Repeat("\xff", 600), header} {
		e, f, n, code := impl.GetLong(header + behind)
		if e != asReadLong(entry) || f != flag || n != size || code != impl.RdOk {
			t.Errorf("GetLong of the header of %+v is %+v, %q, %d, %d", entry, e, f, n, code)
		}
	}
}

// checkNoLong fails unless GetLong refuses s with the code and tells nothing else.
func checkNoLong(t *testing.T, name string, s string, want int) {
	t.Helper()
	if e, flag, size, code := impl.GetLong(s); code != want || e != (impl.Entry{}) || flag != "" || size != 0 {
		t.Errorf("GetLong of %s is %+v, %q, %d, %d; want the code %d", name, e, flag, size, code, want)
	}
}

func TestPutLongFields(t *testing.T) {
	nuls := func(n int) string { return strings.Repeat("\x00", n) }
	path, link := deepPath("f"), strings.Repeat("l", 99)+"mn"
	e := impl.Entry{Kind: impl.KSym, Path: path, Link: link, Mode: 0o1755, Uid: 2097152, Gid: 0o7654321, Time: 99999999999, User: "ann", Group: strings.Repeat("g", 20)}
	header := impl.PutLong(e, "2", 0o1234)
	if len(header) != 512 {
		t.Fatalf("the header has %d bytes", len(header))
	}
	checkFields(t, header, []headField{
		{"name", 0, 100, path[:100]},
		{"Mode", 100, 108, "0001755\x00"},
		{"Uid", 108, 116, "\x80\x00\x00\x00\x00\x20\x00\x00"},
		{"Gid", 116, 124, "7654321\x00"},
		{"size", 124, 136, "00000001234\x00"},
		{"Time", 136, 148, "\x80\x00\x00\x00\x00\x00\x00\x17\x48\x76\xe7\xff"},
		{"checksum", 148, 156, fmt.Sprintf("%06o\x00 ", impl.SumOf(header[:148])+256+impl.SumOf(header[156:]))},
		{"flag", 156, 157, "2"},
		{"Link", 157, 257, strings.Repeat("l", 99) + "m"},
		{"magic", 257, 265, "ustar  \x00"},
		{"User", 265, 297, "ann" + nuls(29)},
		{"Group", 297, 329, strings.Repeat("g", 20) + nuls(12)},
		{"major", 329, 337, "0000000\x00"},
		{"minor", 337, 345, "0000000\x00"},
		{"no prefix", 345, 500, nuls(155)},
		{"rest", 500, 512, nuls(12)},
	})
	checkLong(t, header, e, "2", 0o1234)
}

// Numbers at the limits of UstarFits are still written in octal, those beyond in binary.
func TestNumbersOfALongHeader(t *testing.T) {
	for n, want := range map[int]string{
		0: "0000000\x00", 1: "0000001\x00", 2097151: "7777777\x00",
		2097152: "\x80\x00\x00\x00\x00\x20\x00\x00", 2097153: "\x80\x00\x00\x00\x00\x20\x00\x01", 4294967295: "\x80\x00\x00\x00\xff\xff\xff\xff",
	} {
		for at, e := range map[int]impl.Entry{108: {Path: "a", Uid: n}, 116: {Path: "a", Gid: n}} {
			header := impl.PutLong(e, "0", 0)
			if header[at:at+8] != want {
				t.Errorf("in %+v the number is %q, want %q", e, header[at:at+8], want)
			}
			checkLong(t, header, e, "0", 0)
		}
	}
	for n, want := range map[int]string{
		0: "00000000000\x00", 1: "00000000001\x00", 8589934591: "77777777777\x00",
		8589934592: "\x80\x00\x00\x00\x00\x00\x00\x02\x00\x00\x00\x00", 99999999999: "\x80\x00\x00\x00\x00\x00\x00\x17\x48\x76\xe7\xff",
	} {
		e := impl.Entry{Path: "a", Time: n}
		header := impl.PutLong(e, "0", 0)
		if header[136:148] != want {
			t.Errorf("the Time %d is %q, want %q", n, header[136:148], want)
		}
		checkLong(t, header, e, "0", 0)
	}
}

// Names are cut to 100 bytes, wherever their slashes are.
func TestNamesOfALongHeader(t *testing.T) {
	for _, length := range []int{1, 2, 99, 100, 101, 102, 149, 150, 199, 200} {
		want := min(length, 100)
		path := longPath(length)
		for _, e := range []impl.Entry{file(path, ""), dir(path), sym(path, "to"), hard(path, "to")} {
			header := impl.PutLong(e, "0", 0)
			if got := strings.TrimRight(header[:100], "\x00"); got != path[:want] {
				t.Errorf("the name of a path of %d bytes is %q", length, got)
			}
			checkLong(t, header, e, "0", 0)
		}
		links := []impl.Entry{hard("a", path)}
		if length <= 150 {
			links = append(links, sym("a", path), sym("a", strings.Repeat("/", length)), sym(path, path), hard(deepPath("f"), path))
		}
		for _, e := range links {
			header := impl.PutLong(e, "0", 0)
			if got := strings.TrimRight(header[157:257], "\x00"); got != e.Link[:want] {
				t.Errorf("the link of %d bytes is %q", length, got)
			}
			checkLong(t, header, e, "0", 0)
		}
	}
}

func TestPutLongOfManyEntries(t *testing.T) {
	written, refused := 0, 0
	for _, e := range append(paxEntries(), manyEntries()...) {
		for flag, size := range map[string]int{"0": 0, "5": 1, "2": 511, "1": 512, "x": 2999, "\x00": 3000, "\xff": 1234} {
			want := ""
			if isEntry(e) {
				want = longHeadOf(e, flag, size)
				written++
			} else {
				refused++
			}
			got := impl.PutLong(e, flag, size)
			if got != want {
				t.Fatalf("PutLong(%+v, %q, %d) = %q", e, flag, size, got)
			}
			if want != "" {
				checkLong(t, got, e, flag, size)
			}
		}
	}
	if written < 2000 || refused < 500 {
		t.Errorf("%d headers are written and %d refused", written, refused)
	}
}

func TestPutLongFlagsAndSizes(t *testing.T) {
	for _, e := range append(oneOfEach(), file(deepPath("f"), "body")) {
		for c := range 256 {
			flag := string([]byte{byte(c)})
			if got := impl.PutLong(e, flag, 7); got != longHeadOf(e, flag, 7) {
				t.Errorf("PutLong with the flag %q is %q", flag, got)
			}
			checkLong(t, impl.PutLong(e, flag, 7), e, flag, 7)
		}
		for _, flag := range []string{"", "00", "0\x00", "\x00\x00", "LK", "é", "file", everyByte()} {
			if got := impl.PutLong(e, flag, 7); got != "" {
				t.Errorf("PutLong with the flag %q is %q", flag, got)
			}
		}
		// The size is the one that is given, whatever the Body has.
		for _, size := range []int{0, 1, 4, 511, 512, 513, 2999, 3000} {
			if got := impl.PutLong(e, "0", size); got != longHeadOf(e, "0", size) {
				t.Errorf("PutLong with the size %d is %q", size, got)
			}
		}
		for _, size := range []int{-1, -3000, 3001, 4096, 8589934591, 8589934592, 1 << 40, math.MinInt, math.MaxInt} {
			if got := impl.PutLong(e, "0", size); got != "" {
				t.Errorf("PutLong with the size %d is %q", size, got)
			}
		}
	}
}

func TestPutLongRefuses(t *testing.T) {
	invalid := append(someBadEntries(),
		impl.Entry{Path: longPath(201)}, impl.Entry{Path: "././@LongLink"}, sym("s", strings.Repeat("l", 151)), hard("h", longPath(201)),
		hard(deepPath("f"), deepPath("f")), file("a", strings.Repeat("b", 3001)), impl.Entry{Path: "a", Uid: impl.MaxNum}, impl.Entry{Path: "a", Time: math.MaxInt})
	for _, e := range invalid {
		for _, flag := range []string{"0", "L", impl.Flag(e.Kind)} {
			if got := impl.PutLong(e, flag, 0); got != "" {
				t.Errorf("PutLong(%+v, %q) = %q", e, flag, got)
			}
		}
	}
}

// An entry that an ustar header represents without a prefix has the same header but for the magic and the checksum.
func TestLongHeaderBesideUstar(t *testing.T) {
	compared := 0
	for _, e := range manyEntries() {
		ustar := impl.PutHead(e, "0", 9)
		if ustar == "" || len(e.Path) > 100 {
			continue
		}
		compared++
		if got := impl.PutLong(e, "0", 9); got != rewritten(ustar, 257, "ustar  \x00") {
			t.Errorf("PutLong(%+v) is %q", e, got)
		}
		checkNoLong(t, "an ustar header", ustar, impl.RdBad)
		checkNoHead(t, "a long header", impl.PutLong(e, "0", 9), impl.RdBad)
	}
	if compared < 100 {
		t.Errorf("only %d headers are compared", compared)
	}
}

// The fields of an entry with a short Path and Link are recovered from its header.
func TestLongHeaderComesBack(t *testing.T) {
	short := slices.DeleteFunc(paxEntries(), func(e impl.Entry) bool { return len(e.Path) > 100 || len(e.Link) > 100 })
	great := 0
	for _, e := range short {
		for _, size := range []int{0, 1, 511, 3000} {
			got, flag, n, code := impl.GetLong(impl.PutLong(e, impl.Flag(e.Kind), size))
			if got != asRead(e) || flag != impl.Flag(e.Kind) || n != size || code != impl.RdOk {
				t.Fatalf("the header of %+v comes back as %+v, %q, %d, %d", e, got, flag, n, code)
			}
		}
		if !fitsUstar(e) {
			great++
		}
	}
	if len(short) < 300 || great < 50 {
		t.Errorf("only %d headers are recovered, %d with great numbers", len(short), great)
	}
}
