package tests

import (
	"maps"
	"math"
	"slices"
	"strings"
	"testing"

	"loop.example/g00413/impl"
)

// Promise 3, what is made of lists: Sorted, Need, WithNeed and Merge.

// counted returns how often each entry occurs.
func counted(list []impl.Entry) map[impl.Entry]int {
	count := map[impl.Entry]int{}
	for _, e := range list {
		count[e]++
	}
	return count
}

// numbered returns the list with the index of each entry in its Time, so that equal entries can be told apart.
func numbered(list []impl.Entry) []impl.Entry {
	list = slices.Clone(list)
	for i := range list {
		list[i].Time = i
	}
	return list
}

func pathsIn(list []impl.Entry) []string {
	var paths []string
	for _, e := range list {
		paths = append(paths, e.Path)
	}
	return paths
}

func TestSorted(t *testing.T) {
	cases := []struct {
		name string
		list []impl.Entry
		want []int
	}{
		{"nil", nil, nil},
		{"one", []impl.Entry{dir("a")}, []int{0}},
		{"in order", []impl.Entry{dir("a"), file("b", ""), sym("c", "x")}, []int{0, 1, 2}},
		{"turned", []impl.Entry{sym("c", "x"), file("b", ""), dir("a")}, []int{2, 1, 0}},
		{"hard links ahead of files", []impl.Entry{hard("a", "z"), hard("b", "y"), file("z", ""), file("y", "")}, []int{3, 2, 0, 1}},
		{"hard links in turned order", []impl.Entry{file("f", ""), hard("c", "f"), hard("b", "f"), hard("a", "f")}, []int{0, 3, 2, 1}},
		{"a hard link that precedes its file", []impl.Entry{hard("h", "f"), file("f", "")}, []int{1, 0}},
		{"only hard links", []impl.Entry{hard("b", "f"), hard("a", "f")}, []int{1, 0}},
		{"equal Paths keep their order", []impl.Entry{file("b", "1"), file("a", "2"), dir("b"), sym("a", "x"), file("b", "3")}, []int{1, 3, 0, 2, 4}},
		{"equal Paths of hard links too", []impl.Entry{hard("b", "y"), hard("a", "x"), hard("b", "x"), hard("a", "z")}, []int{1, 3, 0, 2}},
		{"a hard link goes last even with an equal Path", []impl.Entry{hard("a", "f"), file("a", ""), file("f", "")}, []int{1, 2, 0}},
		// Bytewise, and a proper prefix precedes the longer string; a slash is byte 47.
		{"bytes", []impl.Entry{dir("b"), dir("a/b"), dir("ab"), dir("a"), dir("B"), dir("a.b"), dir("a0")}, []int{4, 3, 5, 1, 6, 2, 0}},
		{"Paths that are none", []impl.Entry{dir("\xff"), dir(""), dir("/"), dir("é"), dir("a")}, []int{1, 2, 4, 3, 0}},
		{"other kinds are no hard links", []impl.Entry{{Kind: 4, Path: "b"}, {Kind: -1, Path: "c"}, hard("a", "x"), {Kind: 7, Path: "a"}}, []int{3, 0, 1, 2}},
	}
	for _, c := range cases {
		list := numbered(c.list)
		var got []int
		for _, e := range impl.Sorted(list) {
			got = append(got, e.Time)
			if e != list[e.Time] {
				t.Errorf("%s: an entry is changed to %v", c.name, e)
			}
		}
		if !slices.Equal(got, c.want) {
			t.Errorf("%s: the order is %v, want %v", c.name, got, c.want)
		}
	}
}

// The promise: sorting keeps the entries and the validity of a list. Sorting again changes nothing.
func TestSortedKeepsEntriesAndValidity(t *testing.T) {
	valid := 0
	for _, list := range append(lists(4), files(30), files(31)) {
		sorted := impl.Sorted(list)
		if !maps.Equal(counted(sorted), counted(list)) {
			t.Fatalf("Sorted(%v) = %v", list, sorted)
		}
		if isList(list) {
			valid++
			if !impl.ListOk(sorted) || !isList(sorted) {
				t.Fatalf("%v is valid, but sorted it is %v", list, sorted)
			}
		}
		for i := 1; i < len(sorted); i++ {
			a, b := sorted[i-1], sorted[i]
			if a.Kind == impl.KHard && b.Kind != impl.KHard || (a.Kind == impl.KHard) == (b.Kind == impl.KHard) && a.Path > b.Path {
				t.Fatalf("Sorted(%v) = %v", list, sorted)
			}
		}
		if !impl.SameList(impl.Sorted(sorted), sorted) {
			t.Fatalf("%v is not sorted", sorted)
		}
	}
	if valid < 100 {
		t.Errorf("only %d lists are valid", valid)
	}
}

// Many equal Paths: a sort that is not stable would mix them.
func TestSortedIsStable(t *testing.T) {
	var list []impl.Entry
	for i := range 300 {
		e := file([]string{"b", "a", "c"}[i%3], "")
		if i%7 == 0 {
			e = hard(e.Path, "f")
		}
		list = append(list, e)
	}
	sorted := impl.Sorted(numbered(list))
	for i := 1; i < len(sorted); i++ {
		a, b := sorted[i-1], sorted[i]
		if a.Kind == b.Kind && a.Path == b.Path && a.Time > b.Time {
			t.Fatalf("entry %d stands ahead of entry %d", a.Time, b.Time)
		}
	}
}

// needed says what Need returns in other words than the program does.
func needed(list []impl.Entry) []string {
	var need []string
	for _, e := range list {
		for up := e.Path; isPath(e.Path) && strings.Contains(up, "/"); {
			up = up[:strings.LastIndex(up, "/")]
			if !slices.Contains(pathsIn(list), up) && !slices.Contains(need, up) {
				need = append(need, up)
			}
		}
	}
	slices.Sort(need)
	return need
}

func TestNeed(t *testing.T) {
	cases := []struct {
		list []impl.Entry
		want []string
	}{
		{[]impl.Entry{file("src/b.go", ""), sym("a", "src"), hard("src/a/c", "src/b.go")}, []string{"src", "src/a"}},
		{nil, nil},
		{[]impl.Entry{}, nil},
		{[]impl.Entry{file("a", ""), dir("b")}, nil},
		{[]impl.Entry{file("a/b/c/d", "")}, []string{"a", "a/b", "a/b/c"}},
		{[]impl.Entry{file("a/b/c/d", ""), dir("a/b")}, []string{"a", "a/b/c"}},
		{[]impl.Entry{dir("a"), dir("a/b"), file("a/b/c", "")}, nil},
		// The directory may follow, and an entry of any kind has the Path.
		{[]impl.Entry{file("a/b", ""), dir("a")}, nil},
		{[]impl.Entry{file("a/b", ""), file("a", "")}, nil},
		{[]impl.Entry{file("a/b", ""), sym("a", "x")}, nil},
		{[]impl.Entry{file("a/b", ""), hard("a", "x")}, nil},
		// Ascending as strings, each once.
		{[]impl.Entry{file("b/x", ""), file("a/x", ""), file("b/y", ""), file("a/b/x", "")}, []string{"a", "a/b", "b"}},
		{[]impl.Entry{file("a/b/c", ""), file("a.b/c", ""), file("a0/c", ""), file("B/c", "")}, []string{"B", "a", "a.b", "a/b", "a0"}},
		{[]impl.Entry{file("a/b", ""), file("a/b", "")}, []string{"a"}},
		// Links need nothing.
		{[]impl.Entry{sym("s", "x/y"), hard("h", "z/y")}, nil},
		// Kinds and other fields are not judged.
		{[]impl.Entry{{Kind: 9, Path: "a/b", Mode: -1}}, []string{"a"}},
	}
	for _, c := range cases {
		if got := impl.Need(c.list); !slices.Equal(got, c.want) {
			t.Errorf("Need of %q is %q, want %q", pathsIn(c.list), got, c.want)
		}
	}
	for _, list := range lists(4) {
		if got := impl.Need(list); !slices.Equal(got, needed(list)) {
			t.Fatalf("Need of %q is %q, want %q", pathsIn(list), got, needed(list))
		}
	}
}

// A Path that is no path has no Parents, but it is still the Path of an entry.
func TestNeedOfNoPaths(t *testing.T) {
	for _, s := range badPaths() {
		if got := impl.Need([]impl.Entry{file(s, "")}); len(got) != 0 {
			t.Errorf("Need of %q is %q", s, got)
		}
		if got := impl.Need([]impl.Entry{file(s, ""), file("p/q", ""), file(s, "")}); !slices.Equal(got, []string{"p"}) {
			t.Errorf("Need of %q and p/q is %q", s, got)
		}
	}
	deep := strings.Repeat("a/", 99) + "a"
	if got := impl.Need([]impl.Entry{file(deep, "")}); len(got) != 99 || !slices.Equal(got, impl.Parents(deep)) {
		t.Errorf("Need of a deep path has %d elements", len(got))
	}
}

func TestWithNeed(t *testing.T) {
	list := []impl.Entry{file("src/b.go", "x"), sym("a", "src"), hard("src/a/c", "src/b.go")}
	want := append([]impl.Entry{{Kind: impl.KDir, Path: "src", Mode: 493}, {Kind: impl.KDir, Path: "src/a", Mode: 493}}, list...)
	if got := impl.WithNeed(list, 493); !impl.SameList(got, want) {
		t.Errorf("WithNeed = %v", got)
	}
	for _, mode := range []int{0, 1, 448, 4095} {
		got := impl.WithNeed([]impl.Entry{file("a/b", "")}, mode)
		if !impl.SameList(got, []impl.Entry{{Kind: impl.KDir, Path: "a", Mode: mode}, file("a/b", "")}) {
			t.Errorf("WithNeed with the mode %d is %v", mode, got)
		}
	}
	for _, list := range [][]impl.Entry{nil, {}, {file("a", "")}, {file("a/b", ""), dir("a")}, oneOfEach()[:0]} {
		if got := impl.WithNeed(list, 493); !impl.SameList(got, list) {
			t.Errorf("WithNeed of a list that needs nothing is %v", got)
		}
	}
}

// checkUnchanged expects WithNeed to return the list as it is.
func checkUnchanged(t *testing.T, name string, list []impl.Entry, mode int) {
	t.Helper()
	if got := impl.WithNeed(list, mode); !impl.SameList(got, list) {
		t.Errorf("WithNeed, %s: %v", name, got)
	}
}

func TestWithNeedOfAnInvalidResult(t *testing.T) {
	for _, mode := range []int{-1, 4096, 33188, math.MinInt, math.MaxInt} {
		checkUnchanged(t, "a mode out of range", []impl.Entry{file("a/b", "")}, mode)
		// Nothing is inserted, so the mode is not asked for.
		checkUnchanged(t, "no need", []impl.Entry{file("a", "")}, mode)
	}
	checkUnchanged(t, "31 entries", append(files(29), file("a/b", "")), 493)
	checkUnchanged(t, "32 entries", append(files(29), file("a/b/c", "")), 493)
	checkUnchanged(t, "a path of 100 components", []impl.Entry{file(strings.Repeat("a/", 99)+"a", "")}, 493)
	checkUnchanged(t, "31 entries before", append(files(30), file("a/b", "")), 493)
	checkUnchanged(t, "equal Paths before", []impl.Entry{file("a/b", ""), file("a/b", "")}, 493)
	checkUnchanged(t, "a hard link that precedes its file", []impl.Entry{hard("a/h", "a/f"), file("a/f", "")}, 493)
	checkUnchanged(t, "a hard link to a needed directory", []impl.Entry{file("a/f", ""), hard("h", "a")}, 493)
	for _, e := range someBadEntries() {
		checkUnchanged(t, "an invalid entry before", []impl.Entry{file("d/f", ""), e}, 493)
	}
	exact := append(files(28), file("a/b", ""))
	if got := impl.WithNeed(exact, 493); len(got) != 30 || got[0].Path != "a" || !impl.SameList(got[1:], exact) {
		t.Errorf("WithNeed with 30 entries in the end has %d", len(got))
	}
}

// A list that WithNeed makes valid needs nothing more.
func TestWithNeedNeedsNothingMore(t *testing.T) {
	for _, list := range lists(4) {
		got := impl.WithNeed(list, 448)
		var want []impl.Entry
		for _, path := range needed(list) {
			want = append(want, impl.Entry{Kind: impl.KDir, Path: path, Mode: 448})
		}
		want = append(want, list...)
		if !isList(want) {
			want = list
		}
		if !impl.SameList(got, want) {
			t.Fatalf("WithNeed(%v) = %v", list, got)
		}
		if isList(got) && (len(impl.Need(got)) != 0 || !impl.SameList(impl.WithNeed(got, 448), got)) {
			t.Fatalf("WithNeed(%v) needs %q", list, impl.Need(got))
		}
	}
}

func TestMerge(t *testing.T) {
	a := []impl.Entry{file("f", "old"), dir("d"), hard("h", "f"), sym("s", "f")}
	cases := []struct {
		name    string
		a, b    []impl.Entry
		want    []impl.Entry
		refused bool
	}{
		{"nothing with nothing", nil, nil, nil, false},
		{"nothing with a list", nil, a, a, false},
		{"a list with nothing", a, nil, a, false},
		{"a list with itself", a, a, a, false},
		{"other Paths", a, []impl.Entry{file("g", "")}, append(slices.Clone(a), file("g", "")), false},
		{"an equal Path", a, []impl.Entry{dir("s")}, []impl.Entry{a[0], a[1], a[2], dir("s")}, false},
		{"an equal Path of another kind", a, []impl.Entry{file("d", "x"), dir("e")}, []impl.Entry{a[0], a[2], a[3], file("d", "x"), dir("e")}, false},
		{"a file and its hard link", a, []impl.Entry{file("f", "new"), hard("h", "f")}, []impl.Entry{a[1], a[3], file("f", "new"), hard("h", "f")}, false},
		{"a hard link to a file of the first list", a, []impl.Entry{hard("i", "f")}, append(slices.Clone(a), hard("i", "f")), false},
		// The file now follows its hard link, is gone or is no file any more.
		{"the file of a hard link", a, []impl.Entry{file("f", "new")}, nil, true},
		{"a directory for the file of a hard link", a, []impl.Entry{dir("f")}, nil, true},
		{"a hard link to nothing", a, []impl.Entry{hard("i", "g")}, nil, true},
		{"a hard link that precedes its file", a, []impl.Entry{hard("i", "g"), file("g", "")}, nil, true},
		{"equal Paths in the second list", a, []impl.Entry{file("g", ""), file("g", "")}, nil, true},
		{"equal Paths in the first list", []impl.Entry{dir("x"), dir("x")}, []impl.Entry{dir("y")}, nil, true},
		{"equal Paths that are replaced", []impl.Entry{dir("x"), dir("x"), dir("w")}, []impl.Entry{dir("x")}, []impl.Entry{dir("w"), dir("x")}, false},
		{"31 entries", files(30), []impl.Entry{file("g", "")}, nil, true},
		{"30 entries", files(29), []impl.Entry{file("g", "")}, append(files(29), file("g", "")), false},
		{"30 entries with one replaced", files(30), []impl.Entry{file("f", "x")}, append(files(30)[1:], file("f", "x")), false},
	}
	for _, c := range cases {
		if c.refused {
			c.want = c.a
		}
		if got := impl.Merge(c.a, c.b); !impl.SameList(got, c.want) {
			t.Errorf("%s: Merge = %v, want %v", c.name, got, c.want)
		}
	}
}

func TestMergeOfInvalidEntries(t *testing.T) {
	good := []impl.Entry{file("f", "x")}
	for i, e := range someBadEntries() {
		if got := impl.Merge(good, []impl.Entry{e}); !impl.SameList(got, good) {
			t.Errorf("the invalid entry %d is merged: %v", i, got)
		}
		if got := impl.Merge([]impl.Entry{e}, good); !impl.SameList(got, []impl.Entry{e}) {
			t.Errorf("the invalid entry %d is changed: %v", i, got)
		}
		// Only the result is judged: an invalid entry of the first list may be replaced.
		if e.Path == "a" {
			if got := impl.Merge([]impl.Entry{e}, []impl.Entry{dir("a")}); !impl.SameList(got, []impl.Entry{dir("a")}) {
				t.Errorf("the invalid entry %d stays: %v", i, got)
			}
		}
	}
}

// Merge has all entries of its second list at the end, or is the first list.
func TestMergeOfShortLists(t *testing.T) {
	short := lists(2)
	merges := 0
	for _, a := range short {
		for _, b := range short {
			var want []impl.Entry
			for _, e := range a {
				if !slices.Contains(pathsIn(b), e.Path) {
					want = append(want, e)
				}
			}
			want = append(want, b...)
			if !isList(want) {
				want = a
			} else {
				merges++
			}
			got := impl.Merge(a, b)
			if !impl.SameList(got, want) {
				t.Fatalf("Merge(%v, %v) = %v", a, b, got)
			}
			if isList(a) && !impl.ListOk(got) {
				t.Fatalf("Merge(%v, %v) = %v is invalid", a, b, got)
			}
		}
	}
	if merges < 100 {
		t.Errorf("only %d lists are merged", merges)
	}
}
