package tests

import (
	"fmt"
	"math"
	"strings"
	"testing"

	"loop.example/g00413/impl"
)

// Promise 4, the header: Split, UstarFits, HeadSum, PutHead, Flag and Kind.

// pathOf returns a path of components of the given lengths.
func pathOf(lengths ...int) string {
	var parts []string
	for i, length := range lengths {
		parts = append(parts, strings.Repeat(string(rune('a'+i%26)), length))
	}
	return strings.Join(parts, "/")
}

// divided says how a path is split in other words than the program does.
func divided(path string) (string, string, bool) {
	if len(path) <= 100 {
		return "", path, isPath(path)
	}
	for i, c := range path {
		if c == '/' && len(path[i+1:]) <= 100 {
			if i > 155 || !isPath(path) {
				break
			}
			return path[:i], path[i+1:], true
		}
	}
	return "", "", false
}

func checkSplit(t *testing.T, path string, prefix string, name string, ok bool) {
	t.Helper()
	if a, b, got := impl.Split(path); a != prefix || b != name || got != ok {
		t.Errorf("Split(%q) = %q, %q, %v; want %q, %q, %v", path, a, b, got, prefix, name, ok)
	}
}

func TestSplit(t *testing.T) {
	// The length of the first part, or -1 if the path is a name as it is.
	cases := []struct {
		path  string
		first int
	}{
		{"a", -1},
		{"a/b", -1},
		{longPath(99), -1},
		{pathOf(60, 39), -1},          // 100 bytes
		{pathOf(60, 40), 60},          // 101 bytes
		{pathOf(1, 59, 40), 1},        // 102 bytes, a name of exactly 100
		{pathOf(1, 60, 40), 62},       // 103 bytes, 101 behind the first slash
		{pathOf(10, 49, 50), 10},      // a name of exactly 100
		{pathOf(10, 50, 50), 61},      // 101 behind the first slash
		{pathOf(60, 38, 50, 49), 99},  // 200 bytes, a name of exactly 100
		{pathOf(60, 34, 59, 40), 95},  // 196 bytes, a name of exactly 100
		{pathOf(60, 37, 55, 45), 154}, // 200 bytes
		{pathOf(60, 37, 56, 44), 155}, // 200 bytes, a first part of exactly 155
		{strings.Repeat("a/", 99) + "a", 99},
	}
	for _, c := range cases {
		if !isPath(c.path) {
			t.Fatalf("%q is no path", c.path)
		}
		if c.first < 0 {
			checkSplit(t, c.path, "", c.path, true)
		} else {
			checkSplit(t, c.path, c.path[:c.first], c.path[c.first+1:], true)
		}
	}
	// No slash serves: the first one that leaves at most 100 bytes has more than 155 in front of it.
	for _, path := range []string{pathOf(60, 37, 57, 43), pathOf(60, 34, 60, 40), pathOf(60, 37, 60, 40), pathOf(50, 47, 58, 20, 21)} {
		if !isPath(path) || len(path) <= 100 {
			t.Fatalf("%q is no long path", path)
		}
		checkSplit(t, path, "", "", false)
	}
}

// The two parts put the path together again.
func TestSplitPartsJoinToThePath(t *testing.T) {
	refused, short, long := 0, 0, 0
	for _, first := range []int{1, 2, 30, 38, 39, 40, 41, 58, 59, 60} {
		for _, second := range []int{1, 34, 35, 36, 37, 38, 39, 40, 60} {
			for third := 1; third <= 60; third++ {
				for _, last := range []int{1, 30, 39, 40, 41, 42, 43, 44, 45, 60} {
					path := pathOf(first, second, third, last)
					prefix, name, ok := impl.Split(path)
					if a, b, want := divided(path); prefix != a || name != b || ok != want {
						t.Fatalf("Split(%q) = %q, %q, %v", path, prefix, name, ok)
					}
					switch {
					case !ok:
						refused++
					case prefix == "" && name == path && len(path) <= 100:
						short++
					case prefix+"/"+name == path && len(prefix) <= 155 && len(name) <= 100 && len(path) > 100:
						long++
					default:
						t.Fatalf("the parts of %q are %q and %q", path, prefix, name)
					}
				}
			}
		}
	}
	if refused < 10 || short < 10 || long < 10 {
		t.Errorf("%d paths are refused, %d short and %d divided", refused, short, long)
	}
}

func TestSplitOfNoPath(t *testing.T) {
	texts := append(badPaths(), strings.Repeat("x", 100), strings.Repeat("x", 101), strings.Repeat("x", 300),
		"/"+strings.Repeat("x", 100), strings.Repeat("x", 101)+"/", strings.Repeat("/", 101), strings.Repeat("/", 300), pathOf(50, 50)+"//"+pathOf(30))
	for _, s := range texts {
		checkSplit(t, s, "", "", false)
	}
}

// fitsUstar says which entries fit in other words than the program does.
func fitsUstar(e impl.Entry) bool {
	_, _, ok := divided(e.Path)
	return isEntry(e) && ok && len(e.Link) < 101 && e.Uid < 1<<21 && e.Gid < 1<<21 && e.Time < 1<<33
}

// changedEntries returns the entry with one field after the other at and beyond the limits of ustar.
func changedEntries(e impl.Entry) []impl.Entry {
	var list []impl.Entry
	add := func(change func(e *impl.Entry)) {
		changed := e
		change(&changed)
		list = append(list, changed)
	}
	for _, n := range []int{math.MinInt, -1, 0, 1, 7, 8, 420, 4095, 4096, 2097150, 2097151, 2097152, 4294967295, 4294967296, 8589934590, 8589934591, 8589934592, 99999999999, 100000000000, math.MaxInt} {
		add(func(e *impl.Entry) { e.Mode = n })
		add(func(e *impl.Entry) { e.Uid = n })
		add(func(e *impl.Entry) { e.Gid = n })
		add(func(e *impl.Entry) { e.Time = n })
	}
	for _, s := range []string{"", "ann", "_0", strings.Repeat("u", 20), strings.Repeat("u", 21), "Ann", "a b"} {
		add(func(e *impl.Entry) { e.User = s })
		add(func(e *impl.Entry) { e.Group = s })
	}
	for _, s := range []string{"", "x", longPath(99), longPath(100), longPath(101), longPath(150), longPath(151), strings.Repeat("l", 100), strings.Repeat("l", 101), "a b", "..", e.Path} {
		add(func(e *impl.Entry) { e.Link = s })
	}
	for _, s := range append([]string{"x", longPath(100), longPath(101), longPath(200), pathOf(60, 37, 56, 44), pathOf(60, 37, 57, 43)}, badPaths()...) {
		add(func(e *impl.Entry) { e.Path = s })
	}
	for _, length := range []int{0, 1, 511, 512, 513, 3000, 3001} {
		add(func(e *impl.Entry) { e.Body = strings.Repeat("b", length) })
	}
	return list
}

// manyEntries returns valid and invalid entries of every kind, some of which do not fit into ustar.
func manyEntries() []impl.Entry {
	list := someBadEntries()
	for _, e := range oneOfEach() {
		list = append(list, e)
		list = append(list, changedEntries(e)...)
		e.Uid, e.Gid, e.Time, e.User, e.Group = 1, 2, 3, "ann", "staff"
		list = append(list, changedEntries(e)...)
	}
	return list
}

func TestUstarFits(t *testing.T) {
	fit := 0
	for _, e := range manyEntries() {
		got := impl.UstarFits(e)
		if got != fitsUstar(e) {
			t.Errorf("UstarFits(%+v) = %v", e, got)
		}
		if got {
			fit++
		}
	}
	if fit < 100 {
		t.Errorf("only %d entries fit", fit)
	}
}

func TestUstarLimits(t *testing.T) {
	cases := []struct {
		name  string
		entry impl.Entry
		want  bool
	}{
		{"nothing but a path", impl.Entry{Path: "a"}, true},
		{"no path", impl.Entry{}, false},
		{"Uid at the limit", impl.Entry{Path: "a", Uid: 2097151}, true},
		{"Uid beyond", impl.Entry{Path: "a", Uid: 2097152}, false},
		{"Gid at the limit", impl.Entry{Path: "a", Gid: 2097151}, true},
		{"Gid beyond", impl.Entry{Path: "a", Gid: 2097152}, false},
		{"Time at the limit", impl.Entry{Path: "a", Time: 8589934591}, true},
		{"Time beyond", impl.Entry{Path: "a", Time: 8589934592}, false},
		{"Link of 100 bytes", sym("a", strings.Repeat("l", 100)), true},
		{"Link of 101 bytes", sym("a", strings.Repeat("l", 101)), false},
		{"hard link to 100 bytes", hard("a", longPath(100)), true},
		{"hard link to 101 bytes", hard("a", longPath(101)), false},
		{"a first part of 155 bytes", dir(pathOf(60, 37, 56, 44)), true},
		{"a first part of 156 bytes", dir(pathOf(60, 37, 57, 43)), false},
		{"a Body of MaxBody", file("a", strings.Repeat("b", 3000)), true},
		{"a longer Body", file("a", strings.Repeat("b", 3001)), false},
	}
	for _, c := range cases {
		if got := impl.UstarFits(c.entry); got != c.want {
			t.Errorf("UstarFits of an entry with %s is %v", c.name, got)
		}
		if got := impl.PutHead(c.entry, "0", 0) != ""; got != c.want {
			t.Errorf("PutHead of an entry with %s: %v", c.name, got)
		}
	}
}

func TestHeadSum(t *testing.T) {
	for length := range 512 {
		for _, s := range []string{strings.Repeat("\x00", length), strings.Repeat("\xff", length)} {
			if got := impl.HeadSum(s); got != -1 {
				t.Errorf("HeadSum of %d bytes is %d", length, got)
			}
		}
	}
	cases := []struct {
		text string
		want int
	}{
		{strings.Repeat("\x00", 512), 8 * 32},
		{strings.Repeat("\x01", 512), 504 + 8*32},
		{strings.Repeat(" ", 512), 512 * 32},
		{strings.Repeat("\xff", 512), 504*255 + 8*32},
		{strings.Repeat("\xff", 513), 504*255 + 8*32},
		{strings.Repeat("\xff", 5000), 504*255 + 8*32},
		{strings.Repeat("\x00", 512) + strings.Repeat("\xff", 512), 8 * 32},
		{everyByte() + everyByte(), 255*256 - (148 + 149 + 150 + 151 + 152 + 153 + 154 + 155) + 8*32},
	}
	for _, c := range cases {
		if got := impl.HeadSum(c.text); got != c.want {
			t.Errorf("HeadSum of %d bytes is %d, want %d", len(c.text), got, c.want)
		}
	}
}

// Each of the 512 bytes counts, except for those of the checksum field, whatever stands there.
func TestEveryByteOfHeadSum(t *testing.T) {
	for at := range 520 {
		for _, c := range []int{0, 1, 32, 48, 127, 128, 255} {
			text := []byte(strings.Repeat("\x05", 520))
			text[at] = byte(c)
			want := 504*5 + 8*32
			if at < 148 || at > 155 && at < 512 {
				want += c - 5
			}
			if got := impl.HeadSum(string(text)); got != want {
				t.Fatalf("HeadSum with %d at %d is %d, want %d", c, at, got, want)
			}
		}
	}
}

// sealed returns the header with the checksum that is right for its other bytes.
func sealed(header string) string {
	sum := 0
	for i := range 512 {
		if i < 148 || i > 155 {
			sum += int(header[i])
		} else {
			sum += ' '
		}
	}
	return header[:148] + fmt.Sprintf("%06o\x00 ", sum) + header[156:]
}

// headOf returns the header of an entry that fits, in other words than the program does.
func headOf(e impl.Entry, flag string, size int) string {
	prefix, name, _ := divided(e.Path)
	text := func(s string, width int) string { return s + strings.Repeat("\x00", width-len(s)) }
	return sealed(text(name, 100) +
		fmt.Sprintf("%07o\x00%07o\x00%07o\x00%011o\x00%011o\x00", e.Mode, e.Uid, e.Gid, size, e.Time) +
		"????????" + flag + text(e.Link, 100) + "ustar\x00" + "00" + text(e.User, 32) + text(e.Group, 32) +
		"0000000\x000000000\x00" + text(prefix, 155) + strings.Repeat("\x00", 12))
}

type headField struct {
	name     string
	from, to int
	want     string
}

// checkFields fails unless the fields stand one behind the other in a header.
func checkFields(t *testing.T, header string, fields []headField) {
	t.Helper()
	at := 0
	for _, f := range fields {
		if got := header[f.from:f.to]; got != f.want || f.from != at {
			t.Errorf("%s is %q, want %q", f.name, got, f.want)
		}
		at = f.to
	}
	if at != len(header) {
		t.Errorf("the header has %d bytes", len(header))
	}
}

func TestPutHeadFields(t *testing.T) {
	path := pathOf(60, 37, 56, 44)
	e := impl.Entry{Kind: impl.KSym, Path: path, Link: "../to", Mode: 0o1755, Uid: 0o123, Gid: 0o7654321, Time: 0o12345670123, User: "ann", Group: strings.Repeat("g", 20)}
	header := impl.PutHead(e, "2", 0o1234)
	if len(header) != 512 {
		t.Fatalf("the header has %d bytes", len(header))
	}
	nuls := func(n int) string { return strings.Repeat("\x00", n) }
	checkFields(t, header, []headField{
		{"name", 0, 100, path[156:] + nuls(56)},
		{"Mode", 100, 108, "0001755\x00"},
		{"Uid", 108, 116, "0000123\x00"},
		{"Gid", 116, 124, "7654321\x00"},
		{"size", 124, 136, "00000001234\x00"},
		{"Time", 136, 148, "12345670123\x00"},
		{"checksum", 148, 156, fmt.Sprintf("%06o\x00 ", impl.SumOf(header[:148])+256+impl.SumOf(header[156:]))},
		{"flag", 156, 157, "2"},
		{"Link", 157, 257, "../to" + nuls(95)},
		{"magic", 257, 265, "ustar\x0000"},
		{"User", 265, 297, "ann" + nuls(29)},
		{"Group", 297, 329, strings.Repeat("g", 20) + nuls(12)},
		{"major", 329, 337, "0000000\x00"},
		{"minor", 337, 345, "0000000\x00"},
		{"prefix", 345, 500, path[:155]},
		{"rest", 500, 512, nuls(12)},
	})
}

func TestPutHeadOfManyEntries(t *testing.T) {
	for _, e := range manyEntries() {
		for flag, size := range map[string]int{"0": 0, "5": 1, "2": 511, "1": 512, "x": 2999, "\x00": 3000, "\xff": 1234} {
			want := ""
			if fitsUstar(e) {
				want = headOf(e, flag, size)
			}
			if got := impl.PutHead(e, flag, size); got != want {
				t.Fatalf("PutHead(%+v, %q, %d) = %q", e, flag, size, got)
			}
		}
	}
	full := impl.Entry{Kind: impl.KHard, Path: longPath(100), Link: strings.Repeat("l/", 49) + "ll", Mode: 4095, Uid: 2097151, Gid: 2097151, Time: 8589934591, User: strings.Repeat("z", 20), Group: strings.Repeat("z", 20)}
	if got := impl.PutHead(full, "1", 3000); got != headOf(full, "1", 3000) || got[:101] != full.Path+"0" || got[157:258] != full.Link+"u" {
		t.Errorf("a header with all fields full is %q", got)
	}
}

func TestPutHeadFlagsAndSizes(t *testing.T) {
	for _, e := range oneOfEach() {
		for c := range 256 {
			flag := string([]byte{byte(c)})
			if got := impl.PutHead(e, flag, 7); got != headOf(e, flag, 7) {
				t.Errorf("PutHead with the flag %q is %q", flag, got)
			}
		}
		for _, flag := range []string{"", "00", "0\x00", "\x00\x00", "é", "file", everyByte()} {
			if got := impl.PutHead(e, flag, 7); got != "" {
				t.Errorf("PutHead with the flag %q is %q", flag, got)
			}
		}
		// The size is the one that is given, whatever the Body has.
		for _, size := range []int{0, 1, 4, 511, 512, 513, 2999, 3000} {
			if got := impl.PutHead(e, "0", size); got != headOf(e, "0", size) {
				t.Errorf("PutHead with the size %d is %q", size, got)
			}
		}
		for _, size := range []int{-1, -3000, 3001, 4096, 8589934591, 1 << 40, math.MinInt, math.MaxInt} {
			if got := impl.PutHead(e, "0", size); got != "" {
				t.Errorf("PutHead with the size %d is %q", size, got)
			}
		}
	}
}

func TestFlagAndKind(t *testing.T) {
	for kind, want := range map[int]string{
		impl.KFile: "0", impl.KDir: "5", impl.KSym: "2", impl.KHard: "1",
		-1: "", 4: "", 5: "", 48: "", math.MinInt: "", math.MaxInt: "", 1 << 32: "", -4: "",
	} {
		if got := impl.Flag(kind); got != want {
			t.Errorf("Flag(%d) = %q", kind, got)
		}
	}
	for c := range 256 {
		want := strings.IndexByte("0521", byte(c))
		if got := impl.Kind(string([]byte{byte(c)})); got != want {
			t.Errorf("Kind of the byte %d is %d", c, got)
		}
	}
	for _, flag := range []string{"", "05", "52", "21", "0521", "00", "0\x00", " 0", "é", everyByte()} {
		if got := impl.Kind(flag); got != -1 {
			t.Errorf("Kind(%q) = %d", flag, got)
		}
	}
	for kind := range 4 {
		if impl.Kind(impl.Flag(kind)) != kind {
			t.Errorf("the kind %d does not come back", kind)
		}
	}
	if impl.RdOk != 0 || impl.RdCut != 1 || impl.RdSum != 2 || impl.RdField != 3 || impl.RdBad != 4 || impl.RdEnd != 5 {
		t.Error("the codes have other numbers")
	}
}
