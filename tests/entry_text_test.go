package tests

import (
	"fmt"
	"math"
	"strings"
	"testing"

	"loop.example/g00413/impl"
)

// Chapter 3, entries and lists as text and compared: SameEntry, SameList, EntryText, ListText, Find and Size.

// someBadEntries returns invalid entries, one for every rule.
func someBadEntries() []impl.Entry {
	return []impl.Entry{
		{},
		{Path: "/a"},
		{Path: "a/../b"},
		{Path: "a", Mode: -1},
		{Path: "a", Mode: 4096},
		{Path: "a", Uid: -1},
		{Path: "a", Uid: 4294967296},
		{Path: "a", Gid: -1},
		{Path: "a", Gid: 4294967296},
		{Path: "a", Time: -1},
		{Path: "a", Time: 100000000000},
		{Path: "a", User: "A"},
		{Path: "a", Group: "a-b"},
		{Path: "a", Group: strings.Repeat("g", 21)},
		{Path: "a", Link: "b"},
		{Path: "a", Body: strings.Repeat("x", 3001)},
		{Path: "a", Kind: impl.KDir, Link: "b"},
		{Path: "a", Kind: impl.KDir, Body: "x"},
		{Path: "a", Kind: impl.KSym},
		{Path: "a", Kind: impl.KSym, Link: "b c"},
		{Path: "a", Kind: impl.KSym, Link: "b", Body: "x"},
		{Path: "a", Kind: impl.KHard},
		{Path: "a", Kind: impl.KHard, Link: "a"},
		{Path: "a", Kind: impl.KHard, Link: "b/.."},
		{Path: "a", Kind: impl.KHard, Link: "b", Body: "x"},
		{Path: "a", Kind: -1},
		{Path: "a", Kind: 4},
		{Path: "a", Kind: math.MaxInt},
		{Path: "a", Kind: math.MinInt},
	}
}

func TestEntryText(t *testing.T) {
	full := impl.Entry{Path: "d/f", Mode: 4095, Uid: 4294967295, Gid: 4294967294, Time: 99999999999, User: "ann_1", Group: "0", Body: strings.Repeat("\n", 3000)}
	cases := []struct {
		entry impl.Entry
		want  string
	}{
		{sym("a", "src"), "l 0777 0 0 0 - - 0 a -> src"},
		{impl.Entry{Path: "src/b.go", Mode: 420, Uid: 5, Time: 9, User: "ann", Body: "hello"}, "f 0644 5 0 9 ann - 5 src/b.go"},
		{hard("src/a/c", "src/b.go"), "h 0644 0 0 0 - - 0 src/a/c -> src/b.go"},
		{dir("src"), "d 0755 0 0 0 - - 0 src"},
		{impl.Entry{Path: "a"}, "f 0000 0 0 0 - - 0 a"},
		{impl.Entry{Path: "a", Mode: 1}, "f 0001 0 0 0 - - 0 a"},
		{impl.Entry{Path: "a", Mode: 8, Gid: 7}, "f 0010 0 7 0 - - 0 a"},
		{impl.Entry{Path: "a", Mode: 4095}, "f 7777 0 0 0 - - 0 a"},
		{impl.Entry{Path: "a", Group: "staff"}, "f 0000 0 0 0 - staff 0 a"},
		{impl.Entry{Path: "a", User: "_"}, "f 0000 0 0 0 _ - 0 a"},
		{full, "f 7777 4294967295 4294967294 99999999999 ann_1 0 3000 d/f"},
		{impl.Entry{Kind: impl.KSym, Path: "-", Link: "->"}, "l 0000 0 0 0 - - 0 - -> ->"},
	}
	for _, c := range cases {
		if got := impl.EntryText(c.entry); got != c.want {
			t.Errorf("EntryText = %q, want %q", got, c.want)
		}
	}
	for i, e := range someBadEntries() {
		if got := impl.EntryText(e); got != "" || impl.EntryOk(e) {
			t.Errorf("EntryText of the invalid entry %d is %q", i, got)
		}
	}
}

// lineOf writes the line of a valid entry in another way than the program does.
func lineOf(e impl.Entry) string {
	dash := func(s string) string {
		if s == "" {
			return "-"
		}
		return s
	}
	line := fmt.Sprintf("%c %04o %d %d %d %s %s %d %s", "fdlh"[e.Kind], e.Mode, e.Uid, e.Gid, e.Time, dash(e.User), dash(e.Group), len(e.Body), e.Path)
	if e.Kind >= impl.KSym {
		line += " -> " + e.Link
	}
	return line
}

func TestEntryTextOfAnyValidEntry(t *testing.T) {
	for _, e := range append(oneOfEach(), pool()...) {
		for _, mode := range []int{0, 7, 8, 63, 64, 511, 512, 4095} {
			for _, n := range []int{0, 9, 10, 4294967295} {
				for _, s := range []string{"", "ann", strings.Repeat("u", 20)} {
					e.Mode, e.Uid, e.Gid, e.Time, e.User = mode, n, n/2, n/3, s
					if got := impl.EntryText(e); got != lineOf(e) {
						t.Fatalf("EntryText = %q, want %q", got, lineOf(e))
					}
				}
			}
		}
	}
}

func TestListText(t *testing.T) {
	list := []impl.Entry{
		{Path: "src/b.go", Mode: 420, Uid: 5, Time: 9, User: "ann", Body: "hello"},
		sym("a", "src"),
		hard("src/a/c", "src/b.go"),
	}
	want := "f 0644 5 0 9 ann - 5 src/b.go\nl 0777 0 0 0 - - 0 a -> src\nh 0644 0 0 0 - - 0 src/a/c -> src/b.go\n"
	if got := impl.ListText(list); got != want {
		t.Errorf("ListText = %q, want %q", got, want)
	}
	if impl.ListText(nil) != "" || impl.ListText([]impl.Entry{}) != "" {
		t.Error("ListText of no entries is not empty")
	}
	// The list is not judged, only its entries: an invalid one leaves an empty line.
	for i, e := range someBadEntries() {
		if got := impl.ListText([]impl.Entry{dir("d"), e, dir("d")}); got != "d 0755 0 0 0 - - 0 d\n\nd 0755 0 0 0 - - 0 d\n" {
			t.Errorf("ListText with the invalid entry %d is %q", i, got)
		}
		if got := impl.ListText([]impl.Entry{e, e}); got != "\n\n" {
			t.Errorf("ListText of the invalid entry %d twice is %q", i, got)
		}
	}
	if got := strings.Count(impl.ListText(files(40)), "\n"); got != 40 {
		t.Errorf("ListText of 40 entries has %d lines", got)
	}
}

// Every field counts, whether the entry is valid or not.
func TestSameEntry(t *testing.T) {
	for _, e := range append(oneOfEach(), someBadEntries()...) {
		others := []impl.Entry{e, e, e, e, e, e, e, e, e, e}
		others[0].Kind++
		others[1].Path += "x"
		others[2].Link += "x"
		others[3].Mode++
		others[4].Uid++
		others[5].Gid++
		others[6].Time++
		others[7].User += "x"
		others[8].Group += "x"
		others[9].Body += "x"
		if !impl.SameEntry(e, e) {
			t.Errorf("%v is not the same as itself", e)
		}
		for i, other := range others {
			if impl.SameEntry(e, other) || impl.SameEntry(other, e) {
				t.Errorf("%v and %v are the same, but field %d differs", e, other, i)
			}
			if impl.SameList([]impl.Entry{dir("d"), e}, []impl.Entry{dir("d"), other}) {
				t.Errorf("lists with %v and %v are the same", e, other)
			}
		}
	}
}

func TestSameList(t *testing.T) {
	list := oneOfEach()
	turned := []impl.Entry{list[1], list[0], list[2], list[3]}
	cases := []struct {
		a, b []impl.Entry
		want bool
	}{
		{nil, nil, true},
		{nil, []impl.Entry{}, true},
		{[]impl.Entry{}, nil, true},
		{[]impl.Entry{}, list[:0], true},
		{list, oneOfEach(), true},
		{list, list[:3], false},
		{list[:3], list, false},
		{list, nil, false},
		{nil, []impl.Entry{{}}, false},
		{list, turned, false},
		{[]impl.Entry{{}}, []impl.Entry{{}}, true},
		{[]impl.Entry{{}}, []impl.Entry{{}, {}}, false},
		{files(40), files(40), true},
		{files(40), files(41), false},
	}
	for i, c := range cases {
		if got := impl.SameList(c.a, c.b); got != c.want {
			t.Errorf("case %d: SameList = %v", i, got)
		}
	}
}

func TestFind(t *testing.T) {
	list := []impl.Entry{dir("a"), file("a/b", "1"), file("a", "2"), hard("h", "a/b"), file("a/b", "3"), {}, {Path: "/x"}}
	cases := []struct {
		path string
		want int
	}{
		// The first of those with equal Paths, of whatever kind.
		{"a", 0},
		{"a/b", 1},
		{"h", 3},
		{"", 5},
		{"/x", 6},
		{"b", -1},
		{"a/", -1},
		{"a/bc", -1},
		{"A", -1},
		{"x", -1},
		{"a/b/..", -1},
	}
	for _, c := range cases {
		if got := impl.Find(list, c.path); got != c.want {
			t.Errorf("Find(%q) = %d, want %d", c.path, got, c.want)
		}
	}
	if impl.Find(nil, "a") != -1 || impl.Find([]impl.Entry{}, "") != -1 || impl.Find(list[:1], "a/b") != -1 {
		t.Error("Find finds what is not there")
	}
	for i, e := range files(40) {
		if got := impl.Find(files(40), e.Path); got != i {
			t.Errorf("Find of entry %d is %d", i, got)
		}
	}
}

func TestSize(t *testing.T) {
	cases := []struct {
		list []impl.Entry
		want int
	}{
		{nil, 0},
		{[]impl.Entry{}, 0},
		{[]impl.Entry{dir("d"), sym("s", "linked"), file("f", "")}, 0},
		{oneOfEach(), 4},
		{[]impl.Entry{file("a", "12"), file("b", "\x00\x00\x00")}, 5},
		{[]impl.Entry{file("a", strings.Repeat("x", 3000)), file("b", strings.Repeat("x", 3000))}, 6000},
		// Each Body once, though two Paths lead to it.
		{[]impl.Entry{file("a", "123"), hard("h", "a")}, 3},
		// Bodies that an entry should not have count too.
		{[]impl.Entry{{Kind: impl.KDir, Body: "12"}, {Kind: 9, Body: "345"}, file("a", "6"), file("a", "7")}, 7},
		{[]impl.Entry{file("a", strings.Repeat("x", 5000))}, 5000},
	}
	for i, c := range cases {
		if got := impl.Size(c.list); got != c.want {
			t.Errorf("case %d: Size = %d, want %d", i, got, c.want)
		}
	}
}
