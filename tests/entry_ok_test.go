package tests

import (
	"math"
	"regexp"
	"strings"
	"testing"

	"loop.example/g00413/impl"
)

// Promise 3, what a valid entry and a valid list are: EntryOk and ListOk.

var (
	userForm = regexp.MustCompile(`^[a-z0-9_]{0,20}$`)
	symForm  = regexp.MustCompile(`^[!-~]{1,150}$`)
)

// isEntry says what a valid entry is in other words than the program does.
func isEntry(e impl.Entry) bool {
	numbers := [][2]int{{e.Mode, 4095}, {e.Uid, 4294967295}, {e.Gid, 4294967295}, {e.Time, 99999999999}}
	for _, n := range numbers {
		if n[0] < 0 || n[0] > n[1] {
			return false
		}
	}
	if !isPath(e.Path) || !userForm.MatchString(e.User) || !userForm.MatchString(e.Group) {
		return false
	}
	return e.Kind == impl.KFile && e.Link == "" && len(e.Body) <= 3000 ||
		e.Kind == impl.KDir && e.Link == "" && e.Body == "" ||
		e.Kind == impl.KSym && symForm.MatchString(e.Link) && e.Body == "" ||
		e.Kind == impl.KHard && isPath(e.Link) && e.Link != e.Path && e.Body == ""
}

// isList says what a valid list is in other words than the program does.
func isList(list []impl.Entry) bool {
	for i, e := range list {
		found := e.Kind != impl.KHard
		for _, earlier := range list[:i] {
			if earlier.Path == e.Path {
				return false
			}
			found = found || earlier.Kind == impl.KFile && earlier.Path == e.Link
		}
		if !found || !isEntry(e) {
			return false
		}
	}
	return len(list) <= 30
}

func file(path string, body string) impl.Entry {
	return impl.Entry{Kind: impl.KFile, Path: path, Mode: 420, Body: body}
}

func dir(path string) impl.Entry {
	return impl.Entry{Kind: impl.KDir, Path: path, Mode: 493}
}

func sym(path string, link string) impl.Entry {
	return impl.Entry{Kind: impl.KSym, Path: path, Link: link, Mode: 511}
}

func hard(path string, link string) impl.Entry {
	return impl.Entry{Kind: impl.KHard, Path: path, Link: link, Mode: 420}
}

// oneOfEach returns a valid entry of every kind, at the index that is its Kind.
func oneOfEach() []impl.Entry {
	return []impl.Entry{file("a/f", "body"), dir("a/d"), sym("a/s", "../x"), hard("a/h", "a/f")}
}

// files returns n files with distinct Paths.
func files(n int) []impl.Entry {
	var list []impl.Entry
	for i := range n {
		list = append(list, file("f"+strings.Repeat("x", i), ""))
	}
	return list
}

type entryCase struct {
	name  string
	entry impl.Entry
	want  bool
}

func checkEntries(t *testing.T, cases []entryCase) {
	t.Helper()
	for _, c := range cases {
		if got := impl.EntryOk(c.entry); got != c.want {
			t.Errorf("EntryOk of a kind-%d entry, %q, is %v", c.entry.Kind, c.name, got)
		}
		if got := isEntry(c.entry); got != c.want {
			t.Errorf("the test's own rule for a kind-%d entry, %q, says %v", c.entry.Kind, c.name, got)
		}
	}
}

func TestKinds(t *testing.T) {
	if impl.KFile != 0 || impl.KDir != 1 || impl.KSym != 2 || impl.KHard != 3 {
		t.Error("the kinds have other numbers")
	}
	if impl.MaxBody != 3000 || impl.MaxEntries != 30 || impl.MaxMode != 4095 || impl.MaxId != 4294967295 || impl.MaxTime != 99999999999 {
		t.Error("the limits have other numbers")
	}
	for _, kind := range []int{math.MinInt, -4, -1, 0, 1, 2, 3, 4, 5, 256, 1 << 32, math.MaxInt} {
		for _, e := range append(oneOfEach(), impl.Entry{Path: "a"}) {
			e.Kind = kind
			checkEntries(t, []entryCase{{"another kind", e, isEntry(e)}})
			if (kind < 0 || kind > 3) && impl.EntryOk(e) {
				t.Errorf("the kind %d is accepted", kind)
			}
		}
	}
	if impl.EntryOk(impl.Entry{}) {
		t.Error("the zero entry is accepted")
	}
}

// Every kind keeps the limits of the numbers, met exactly and exceeded by one.
func TestNumbersOfAnEntry(t *testing.T) {
	fields := []struct {
		name  string
		limit int
		set   func(e *impl.Entry, n int)
	}{
		{"Mode", 4095, func(e *impl.Entry, n int) { e.Mode = n }},
		{"Uid", 4294967295, func(e *impl.Entry, n int) { e.Uid = n }},
		{"Gid", 4294967295, func(e *impl.Entry, n int) { e.Gid = n }},
		{"Time", 99999999999, func(e *impl.Entry, n int) { e.Time = n }},
	}
	for _, e := range oneOfEach() {
		for _, f := range fields {
			for n, want := range map[int]bool{
				0: true, 1: true, f.limit - 1: true, f.limit: true,
				-1: false, -f.limit: false, f.limit + 1: false, 2 * f.limit: false, math.MaxInt: false, math.MinInt: false, math.MinInt + 1: false,
			} {
				f.set(&e, n)
				checkEntries(t, []entryCase{{f.name + " " + impl.DecText(n), e, want}})
			}
			f.set(&e, 0)
		}
	}
}

// User and Group have up to 20 lower-case letters, digits and `_`, in every kind.
func TestUserAndGroup(t *testing.T) {
	names := map[string]bool{
		"": true, "ann": true, "_": true, "0": true, "a_9": true, strings.Repeat("z", 19): true, strings.Repeat("a", 20): true, strings.Repeat("_", 20): true,
		strings.Repeat("a", 21): false, strings.Repeat("9", 5000): false, "Ann": false, "a b": false, "a-b": false, "a.": false, "a\x00": false, "a\n": false, "é": false,
	}
	for c := range 256 {
		b := byte(c)
		inside := b >= 'a' && b <= 'z' || b >= '0' && b <= '9' || b == '_'
		for _, s := range []string{"", "x", "xyz"} {
			names[s+string([]byte{b})] = inside
			names[string([]byte{b})+s] = inside
		}
	}
	for _, e := range oneOfEach() {
		for s, want := range names {
			user, group := e, e
			user.User, group.Group = s, s
			checkEntries(t, []entryCase{{"User " + s, user, want}, {"Group " + s, group, want}})
		}
	}
}

func TestPathOfAnEntry(t *testing.T) {
	for _, e := range oneOfEach() {
		for _, s := range goodPaths() {
			e.Path = s
			checkEntries(t, []entryCase{{"Path " + s, e, true}})
		}
		for _, s := range badPaths() {
			e.Path = s
			checkEntries(t, []entryCase{{"Path " + s, e, false}})
		}
	}
}

func TestBodyOfAnEntry(t *testing.T) {
	cases := []struct {
		body string
		want bool
	}{
		{"", true},
		{"x", true},
		{"\x00", true},
		{everyByte(), true},
		{strings.Repeat("x", 2999), true},
		{strings.Repeat("x", 3000), true},
		{strings.Repeat("\xff", 3000), true},
		{strings.Repeat("x", 3001), false},
		{strings.Repeat("x", 1<<20), false},
	}
	for _, c := range cases {
		checkEntries(t, []entryCase{{"a Body", file("a", c.body), c.want}})
		// The other kinds do not use it.
		for _, e := range oneOfEach()[1:] {
			e.Body = c.body
			checkEntries(t, []entryCase{{"a Body", e, c.body == ""}})
		}
	}
}

// The Link of a symbolic link has 1..150 bytes in 33..126 and need not be a path.
func TestLinkOfASymbolicLink(t *testing.T) {
	links := map[string]bool{
		"x": true, "/": true, "..": true, ".": true, "a//b": true, "/a/": true, "../../x": true, "!~": true,
		strings.Repeat("x", 61): true, strings.Repeat("x", 149): true, strings.Repeat("x", 150): true, strings.Repeat("/", 150): true,
		"": false, strings.Repeat("x", 151): false, strings.Repeat("x", 5000): false,
		"a b": false, " ": false, "a\n": false, "é": false,
	}
	for c := range 256 {
		b := string([]byte{byte(c)})
		for _, s := range []string{b, "x" + b, b + "x", "x" + b + "y"} {
			links[s] = c >= 33 && c <= 126
		}
	}
	for s, want := range links {
		checkEntries(t, []entryCase{{"Link " + s, sym("a", s), want}})
	}
	checkEntries(t, []entryCase{{"its own Path as Link", sym("a", "a"), true}})
}

// The Link of a hard link is a path other than its own.
func TestLinkOfAHardLink(t *testing.T) {
	for _, s := range goodPaths() {
		checkEntries(t, []entryCase{{"Link " + s, hard("h", s), true}, {"itself as Link", hard(s, s), false}})
	}
	for _, s := range badPaths() {
		checkEntries(t, []entryCase{{"Link " + s, hard("h", s), false}})
	}
	checkEntries(t, []entryCase{
		{"Link under its Path", hard("h", "h/a"), true},
		{"Link above its Path", hard("h/a", "h"), true},
		{"Link of 150 bytes", hard("h", longPath(150)), true},
		{"Link of 151 bytes", hard("h", longPath(151)), true},
		{"Link of 200 bytes", hard("h", longPath(200)), true},
		{"Link of 201 bytes", hard("h", longPath(201)), false},
	})
}

// Files and directories do not use a Link.
func TestLinkOfOtherKinds(t *testing.T) {
	for _, link := range []string{"x", "/", " ", "\x00", "a/f", longPath(150)} {
		for _, e := range oneOfEach()[:2] {
			e.Link = link
			checkEntries(t, []entryCase{{"Link " + link, e, false}})
		}
	}
}

type listCase struct {
	name string
	list []impl.Entry
	want bool
}

func checkLists(t *testing.T, cases []listCase) {
	t.Helper()
	for _, c := range cases {
		if got := impl.ListOk(c.list); got != c.want {
			t.Errorf("ListOk of %s is %v", c.name, got)
		}
		if got := isList(c.list); got != c.want {
			t.Errorf("the test's own rule for %s says %v", c.name, got)
		}
	}
}

func TestListOk(t *testing.T) {
	bad := dir("z")
	bad.Mode = 4096
	checkLists(t, []listCase{
		{"nil", nil, true},
		{"no entries", []impl.Entry{}, true},
		{"one of each kind", oneOfEach(), true},
		{"29 entries", files(29), true},
		{"30 entries", files(30), true},
		{"31 entries", files(31), false},
		{"60 entries", files(60), false},
		{"30 entries and a hard link", append(files(30), hard("h", "f")), false},
		{"29 entries and a hard link", append(files(29), hard("h", "f")), true},
		{"an invalid entry", []impl.Entry{bad}, false},
		{"an invalid entry at the end", append(oneOfEach(), bad), false},
		{"an invalid entry at the start", append([]impl.Entry{bad}, oneOfEach()...), false},
		{"an invalid 30th entry", append(files(29), bad), false},
		{"an entry below another that is no directory", []impl.Entry{file("a", ""), file("a/b", "")}, true},
		{"an entry without its directory", []impl.Entry{file("a/b/c", "")}, true},
	})
}

func TestEqualPathsInAList(t *testing.T) {
	for _, first := range oneOfEach() {
		for _, second := range oneOfEach() {
			first.Path, second.Path = "same", "same"
			between := []impl.Entry{file("a/f", ""), first, dir("d"), second}
			checkLists(t, []listCase{
				{"two entries with one Path", between, false},
				{"only the first of them", between[:3], true},
			})
		}
	}
	checkLists(t, []listCase{
		{"equal entries", []impl.Entry{file("a", "x"), file("a", "x")}, false},
		{"Paths that only begin alike", []impl.Entry{file("a", ""), file("ab", ""), file("a/b", ""), file("A", "")}, true},
	})
}

func TestHardLinksInAList(t *testing.T) {
	f := file("f", "x")
	checkLists(t, []listCase{
		{"a hard link behind its file", []impl.Entry{f, hard("h", "f")}, true},
		{"a hard link later on", []impl.Entry{f, dir("d"), sym("s", "f"), hard("h", "f")}, true},
		{"two hard links to one file", []impl.Entry{f, hard("h", "f"), hard("i", "f")}, true},
		{"a hard link ahead of its file", []impl.Entry{hard("h", "f"), f}, false},
		{"one hard link behind and one ahead", []impl.Entry{hard("g", "f"), f, hard("h", "f")}, false},
		{"a hard link between two files, to the second", []impl.Entry{file("e", ""), hard("h", "f"), f}, false},
		{"a hard link to nothing", []impl.Entry{f, hard("h", "g")}, false},
		{"only a hard link", []impl.Entry{hard("h", "f")}, false},
		{"a hard link to itself", []impl.Entry{f, hard("h", "h")}, false},
		{"a hard link to a directory", []impl.Entry{dir("d"), hard("h", "d")}, false},
		{"a hard link to a symbolic link", []impl.Entry{f, sym("s", "f"), hard("h", "s")}, false},
		{"a hard link to a hard link", []impl.Entry{f, hard("g", "f"), hard("h", "g")}, false},
		{"two hard links to each other", []impl.Entry{hard("g", "h"), hard("h", "g")}, false},
		{"a symbolic link to nothing", []impl.Entry{sym("s", "nowhere")}, true},
		{"a symbolic link ahead of its file", []impl.Entry{sym("s", "f"), f}, true},
		{"a file and a hard link under its Path", []impl.Entry{f, hard("f/h", "f")}, true},
	})
}

// pool holds entries of all kinds whose Paths and Links meet each other; pools of lists are made of them.
func pool() []impl.Entry {
	return []impl.Entry{
		file("a", "one"), file("b/c", "two"), file("b", ""),
		dir("a"), dir("b"), sym("b/c", "a"),
		hard("h", "a"), hard("b", "b/c"), hard("a", "h"), hard("d/e", "b/c"),
	}
}

// lists returns every list of up to length entries of the pool.
func lists(length int) [][]impl.Entry {
	result := [][]impl.Entry{nil}
	last := result
	for range length {
		var longer [][]impl.Entry
		for _, list := range last {
			for _, e := range pool() {
				longer = append(longer, append(list[:len(list):len(list)], e))
			}
		}
		last = longer
		result = append(result, longer...)
	}
	return result
}

func TestEveryShortList(t *testing.T) {
	accepted := 0
	for _, list := range lists(4) {
		got := impl.ListOk(list)
		if got != isList(list) {
			t.Fatalf("ListOk(%v) = %v", list, got)
		}
		if got {
			accepted++
		}
	}
	if accepted < 100 {
		t.Errorf("only %d lists are valid", accepted)
	}
}
