package tests

import (
	"fmt"
	"slices"
	"strings"
	"testing"

	"loop.example/g00413/impl"
)

// Promise 10, files with any names are recovered from both kinds of ar: Names, PutGnuAr and PutBsdAr, and GetGnuAr and GetBsdAr of what they wrote.

const arLine = "!<arch>\n"

// arKind is one of the two kinds of ar: what the program does, and the same in other words.
type arKind struct {
	name   string
	put    func(list []impl.Entry) (string, bool)
	get    func(s string) ([]impl.Entry, int)
	start  func(list []impl.Entry) string               // what stands ahead of the first entry
	member func(list []impl.Entry, i int) string        // an entry of a list, whether that is valid or not
	read   func(s string) (list []impl.Entry, code int) // what get should tell
}

func gnuAr() arKind {
	return arKind{name: "GnuAr", put: impl.PutGnuAr, get: impl.GetGnuAr, start: gnuStart, member: gnuMember, read: readGnuAr}
}

func bsdAr() arKind {
	return arKind{name: "BsdAr", put: impl.PutBsdAr, get: impl.GetBsdAr, start: func(list []impl.Entry) string { return arLine }, member: bsdMember, read: readBsdAr}
}

func arKinds() []arKind {
	return []arKind{gnuAr(), bsdAr()}
}

// lined returns s with a newline if it has an odd number of bytes.
func lined(s string) string {
	if len(s)%2 == 1 {
		return s + "\n"
	}
	return s
}

// namesOf returns the table of long names.
func namesOf(list []impl.Entry) string {
	table := ""
	for _, e := range list {
		if len(e.Path) >= 16 || strings.Count(e.Path, "/") > 0 {
			table += e.Path + "/\n"
		}
	}
	return table
}

// tableOf returns a table as it stands in an archive, whatever it is.
func tableOf(table string) string {
	return "//" + strings.Repeat(" ", 46) + fmt.Sprintf("%-10d", len(table)) + arMark + lined(table)
}

func gnuStart(list []impl.Entry) string {
	if table := namesOf(list); table != "" {
		return arLine + tableOf(table)
	}
	return arLine
}

func gnuMember(list []impl.Entry, i int) string {
	e := list[i]
	name := e.Path + "/"
	if namesOf(list[i:i+1]) != "" {
		name = "/" + fmt.Sprint(len(namesOf(list[:i])))
	}
	return arHead(name, e, len(e.Body)) + lined(e.Body)
}

func bsdMember(list []impl.Entry, i int) string {
	e := list[i]
	if e.Path[0] == '#' || len(e.Path) >= 17 || strings.Count(e.Path, "/") > 0 {
		return arHead(fmt.Sprintf("#1/%d", len(e.Path)), e, len(e.Path+e.Body)) + lined(e.Path+e.Body)
	}
	return arHead(e.Path, e, len(e.Body)) + lined(e.Body)
}

// archive returns the archive of a list, whether it is valid or not.
func (k arKind) archive(list []impl.Entry) string {
	text := k.start(list)
	for i := range list {
		text += k.member(list, i)
	}
	return text
}

// starts returns where the members of a list start in its archive, and where they end.
func (k arKind) starts(list []impl.Entry) []int {
	starts := []int{len(k.start(list))}
	for i := range list {
		starts = append(starts, starts[i]+len(k.member(list, i)))
	}
	return starts
}

// newlines returns where in the archive of a list a newline makes a table or data even.
func (k arKind) newlines(list []impl.Entry) []int {
	var places []int
	starts := k.starts(list)
	if starts[0] > 8 && len(namesOf(list))%2 == 1 {
		places = append(places, starts[0]-1)
	}
	for i := range list {
		if _, _, size, _ := memberAt(k.member(list, i), 0); size%2 == 1 {
			places = append(places, starts[i+1]-1)
		}
	}
	return places
}

// checkWritten fails unless the list that fits is written as it should be, and comes back from that.
func (k arKind) checkWritten(t *testing.T, what string, list []impl.Entry) {
	t.Helper()
	want := k.archive(list)
	if s, ok := k.put(list); s != want || !ok {
		t.Errorf("Put%s of %s is %.500q, %v; want %.500q", k.name, what, s, ok, want)
	}
	k.checkRead(t, what, want, list)
}

// checkRead fails unless the archive is read as the list.
func (k arKind) checkRead(t *testing.T, what string, s string, list []impl.Entry) {
	t.Helper()
	if got, code := k.get(s); code != impl.RdOk || !impl.SameList(got, list) {
		t.Errorf("Get%s of %s, %.500q, is %+v, %d; want %+v", k.name, what, s, got, code, list)
	}
}

// checkNotWritten fails unless the list is refused.
func (k arKind) checkNotWritten(t *testing.T, what string, list []impl.Entry) {
	t.Helper()
	if s, ok := k.put(list); s != "" || ok {
		t.Errorf("Put%s of %s has %d bytes, %v", k.name, what, len(s), ok)
	}
}

// checkNotRead fails unless the archive is refused with the code and nothing else is told.
func (k arKind) checkNotRead(t *testing.T, what string, s string, want int) {
	t.Helper()
	if list, code := k.get(s); code != want || len(list) != 0 {
		t.Errorf("Get%s of %s, %.500q, reads %d entries and returns %d, want %d", k.name, what, s, len(list), code, want)
	}
}

// checkBoth does for both kinds what checkWritten does for one.
func checkBoth(t *testing.T, what string, list ...impl.Entry) {
	t.Helper()
	if len(list) > 0 && !isList(list) {
		t.Fatalf("%s is invalid", what)
	}
	for _, k := range arKinds() {
		k.checkWritten(t, what, list)
	}
}

// reducedToAr returns the list without what does not fit.
func reducedToAr(list []impl.Entry) []impl.Entry {
	list = slices.DeleteFunc(withoutUsers(list), func(e impl.Entry) bool { return e.Kind != impl.KFile })
	for i := range list {
		list[i].Uid, list[i].Gid = min(list[i].Uid, 999999), min(list[i].Gid, 999999)
	}
	return list
}

// arPaths returns paths at and around the longest that a header has place for, with and without slashes.
func arPaths() []string {
	paths := []string{"a", "a.o", "a/b", "a/b/c", "dir/b", "x/dir/b", "#", "#1", "#1/5", "#1/a", "#/", "##", "#1/", "a#1", "a/#1", "fifteen_bytes_xx", "!<arch>", "0", "17", "\x60", "-", "%s", "a/0"}
	for _, length := range []int{1, 2, 3, 13, 14, 15, 16, 17, 18, 32, 60, 61, 99, 100, 101, 199, 200} {
		flat := strings.Repeat("n", length)
		paths = append(paths, flat, longPath(length), "#"+flat[1:])
		if length > 2 {
			paths = append(paths, "d/"+flat[2:], flat[:length-2]+"/f", flat[:length-3]+"a/f")
		}
	}
	return slices.DeleteFunc(paths, func(path string) bool { return !isPath(path) })
}

// arList returns a list with names of each form and data of odd and even length.
func arList() []impl.Entry {
	return []impl.Entry{
		{Path: "a.o", Mode: 0o644, Uid: 7, Gid: 8, Time: 12, Body: "hello"},
		{Path: "fifteen_bytes_x", Mode: 0o4755, Body: "even"},
		{Path: "sixteen_bytes_xx", Mode: 0, Uid: 999999, Gid: 999999, Time: 99999999999},
		{Path: "seventeen_bytes_x", Mode: 4095, Body: "odd"},
		{Path: "dir/b", Body: "even"},
		{Path: "#1", Mode: 1, Body: "\n"},
	}
}

func TestNames(t *testing.T) {
	one := func(path string) []impl.Entry { return []impl.Entry{{Path: path}} }
	for _, c := range []struct {
		list []impl.Entry
		want string
	}{
		{nil, ""},
		{[]impl.Entry{}, ""},
		{one("a"), ""},
		{one("fourteen_bytes"), ""},
		{one("fifteen_bytes_x"), ""},
		{one("sixteen_bytes_xx"), "sixteen_bytes_xx/\n"},
		{one("seventeen_bytes_x"), "seventeen_bytes_x/\n"},
		{one("a/b"), "a/b/\n"},
		{one("fourteen/bytes"), "fourteen/bytes/\n"},
		{one("fifteen/bytes_x"), "fifteen/bytes_x/\n"},
		{one("sixteen/bytes_xx"), "sixteen/bytes_xx/\n"},
		{one("#1"), ""},
		{arList(), "sixteen_bytes_xx/\nseventeen_bytes_x/\ndir/b/\n"},
		{[]impl.Entry{file("a/b", "x"), file("c", "y"), file("x/a/b", "z")}, "a/b/\nx/a/b/\n"},
		// Neither the entries nor the list have to be valid.
		{[]impl.Entry{dir("d/e"), sym("s/t", "x/y"), hard("h/i", "a/b"), {Kind: 9, Path: "/"}}, "d/e/\ns/t/\nh/i/\n//\n"},
		{[]impl.Entry{file("a/b", ""), file("a/b", "")}, "a/b/\na/b/\n"},
		{one(""), ""},
		{one("a b"), ""},
		{one("a\n"), ""},
		{one("a\n/"), "a\n//\n"},
		{one(strings.Repeat("\x00", 15)), ""},
		{one(strings.Repeat("\x00", 16)), strings.Repeat("\x00", 16) + "/\n"},
		{one("ééééééé"), ""},
		{one("éééééééé"), "éééééééé/\n"},
		{[]impl.Entry{{Path: "a", Link: "b/c", Body: "d/e", User: "f/g"}}, ""},
		{one(longPath(5000)), longPath(5000) + "/\n"},
	} {
		if got := impl.Names(c.list); got != c.want {
			t.Errorf("Names(%.300v) = %.300q, want %.300q", c.list, got, c.want)
		}
		if got := namesOf(c.list); got != c.want {
			t.Errorf("the names of %.300v are for the tests %.300q, want %.300q", c.list, got, c.want)
		}
	}
	for _, list := range append(someGnuLists(), manyEntries(), files(60)) {
		if got, want := impl.Names(list), namesOf(list); got != want {
			t.Errorf("Names(%.300v) = %.300q, want %.300q", list, got, want)
		}
	}
}

// Whole archives, as they stand there.
func TestGnuArLayout(t *testing.T) {
	list := arList()
	want := "!<arch>\n" +
		"//                                              44        \x60\n" +
		"sixteen_bytes_xx/\nseventeen_bytes_x/\ndir/b/\n" +
		"a.o/            12          7     8     644     5         \x60\n" + "hello\n" +
		"fifteen_bytes_x/0           0     0     4755    4         \x60\n" + "even" +
		"/0              99999999999 9999999999990       0         \x60\n" +
		"/18             0           0     0     7777    3         \x60\n" + "odd\n" +
		"/37             0           0     0     0       4         \x60\n" + "even" +
		"#1/             0           0     0     1       1         \x60\n" + "\n\n"
	if s, ok := impl.PutGnuAr(list); s != want || !ok {
		t.Errorf("PutGnuAr is %q, %v", s, ok)
	}
	gnuAr().checkWritten(t, "a list", list)
	if gnuAr().archive(list) != want {
		t.Error("the tests write another archive")
	}
	// A table of odd length has a newline that its size does not count.
	want = "!<arch>\n" +
		"//                                              5         \x60\n" + "a/b/\n\n" +
		"/0              0           0     0     644     2         \x60\n" + "hi" +
		"c/              0           0     0     644     1         \x60\n" + "!\n"
	list = []impl.Entry{file("a/b", "hi"), file("c", "!")}
	if s, ok := impl.PutGnuAr(list); s != want || !ok {
		t.Errorf("PutGnuAr is %q, %v", s, ok)
	}
	gnuAr().checkRead(t, "a table of odd length", want, list)
}

func TestBsdArLayout(t *testing.T) {
	want := "!<arch>\n" +
		"a.o             12          7     8     644     5         \x60\n" + "hello\n" +
		"fifteen_bytes_x 0           0     0     4755    4         \x60\n" + "even" +
		"sixteen_bytes_xx99999999999 9999999999990       0         \x60\n" +
		"#1/17           0           0     0     7777    20        \x60\n" + "seventeen_bytes_xodd" +
		"#1/5            0           0     0     0       9         \x60\n" + "dir/beven\n" +
		"#1/2            0           0     0     1       3         \x60\n" + "#1\n\n"
	if s, ok := impl.PutBsdAr(arList()); s != want || !ok {
		t.Errorf("PutBsdAr is %q, %v", s, ok)
	}
	bsdAr().checkWritten(t, "a list", arList())
	if bsdAr().archive(arList()) != want {
		t.Error("the tests write another archive")
	}
}

// Nothing stands in the archive of an empty list but the first line.
func TestArOfNothing(t *testing.T) {
	for _, k := range arKinds() {
		for _, list := range [][]impl.Entry{nil, {}} {
			if s, ok := k.put(list); s != "!<arch>\n" || !ok {
				t.Errorf("Put%s of the empty list is %q, %v", k.name, s, ok)
			}
		}
		k.checkRead(t, "the empty list", "!<arch>\n", nil)
	}
}

// The promise, for all lists that fit.
func TestArListComesBack(t *testing.T) {
	fit := 0
	check := func(list []impl.Entry) {
		t.Helper()
		if isList(list) {
			fit++
			checkBoth(t, "a list that fits", list...)
		}
	}
	for _, list := range someGnuLists() {
		check(reducedToAr(list))
	}
	for _, e := range arEntries() {
		if fitsAr(e) {
			check([]impl.Entry{e})
			check([]impl.Entry{file("dir/b", "x"), e, file("z", "")})
		}
	}
	check(arList())
	if fit < 500 {
		t.Errorf("only %d lists fit", fit)
	}
}

// Paths of every length around the limits, each alone and with one ahead and one behind.
func TestArPaths(t *testing.T) {
	paths := arPaths()
	if len(paths) < 80 {
		t.Fatalf("there are only %d paths", len(paths))
	}
	for _, path := range paths {
		for _, body := range []string{"", "x", "xy", path, "/" + path + "/\n"} {
			checkBoth(t, "a Path", file(path, body))
		}
		for _, other := range paths {
			if other != path {
				checkBoth(t, "two Paths", file(other, "one"), file(path, "two"))
			}
		}
	}
	for length := 1; length <= 200; length++ {
		checkBoth(t, "a long Path", file(longPath(length), "x"), file("A"+longPath(length)[1:], "y"))
	}
}

// How the name of each path stands in the header.
func TestArNamesOfPaths(t *testing.T) {
	for _, c := range []struct{ path, gnu, bsd string }{
		{"fourteen_bytes", "fourteen_bytes/ ", "fourteen_bytes  "},
		{"fourteen/bytes", "/0              ", "#1/14           "},
		{"fifteen_bytes_x", "fifteen_bytes_x/", "fifteen_bytes_x "},
		{"fifteen/bytes_x", "/0              ", "#1/15           "},
		{"sixteen_bytes_xx", "/0              ", "sixteen_bytes_xx"},
		{"sixteen/bytes_xx", "/0              ", "#1/16           "},
		{"seventeen_bytes_x", "/0              ", "#1/17           "},
		{"seventeen/bytes_x", "/0              ", "#1/17           "},
		{"#", "#/              ", "#1/1            "},
		{"#1", "#1/             ", "#1/2            "},
		{"#1/2", "/0              ", "#1/4            "},
		{"#fifteen_bytes_", "#fifteen_bytes_/", "#1/15           "},
		{"#sixteen_bytes_x", "/0              ", "#1/16           "},
		{"a#1", "a#1/            ", "a#1             "},
		{"a", "a/              ", "a               "},
		{"0", "0/              ", "0               "},
		{longPath(200), "/0              ", "#1/200          "},
	} {
		s, _ := impl.PutGnuAr([]impl.Entry{file(c.path, "")})
		if got := s[len(s)-60 : len(s)-44]; got != c.gnu {
			t.Errorf("the name of %q is %q for GNU, want %q", c.path, got, c.gnu)
		}
		s, _ = impl.PutBsdAr([]impl.Entry{file(c.path, "")})
		if got := s[8:24]; got != c.bsd {
			t.Errorf("the name of %q is %q for BSD, want %q", c.path, got, c.bsd)
		}
		checkBoth(t, "a name", file(c.path, "x"))
	}
}

// What is no path has no archive, whichever name it might have there.
func TestArOfNoPath(t *testing.T) {
	for _, path := range append(badPaths(), "a b", "a ", " a", "#1 ", "fifteen bytes_x", "fourteen_bytes ", "fifteen_bytes_x ", "a/b c", "a/b ", "#1/", "//", "a\n", "a/\n", "a/b/") {
		if isPath(path) {
			t.Fatalf("%q is a path", path)
		}
		for _, k := range arKinds() {
			k.checkNotWritten(t, "no path", []impl.Entry{file(path, "x")})
			k.checkNotWritten(t, "no path", []impl.Entry{file("a/f", "x"), file(path, "x"), file("z", "")})
		}
	}
}

// Offsets are those of whole names, also where one ends like another or lies in one.
func TestTableOffsets(t *testing.T) {
	for _, c := range []struct {
		paths   []string
		offsets []string
	}{
		{[]string{"x/dir/b", "dir/b"}, []string{"/0", "/9"}},
		{[]string{"dir/b", "x/dir/b"}, []string{"/0", "/7"}},
		{[]string{"dir/b", "dir/bb", "r/b", "ir/b"}, []string{"/0", "/7", "/15", "/20"}},
		{[]string{"a_long_name_is_long", "long_name_is_long", "name_is_long", "_long_name_is_long"}, []string{"/0", "/21", "name_is_long/", "/40"}},
		{[]string{"b", "a/b", "c", "x/a/b", "d", "a/b/x"}, []string{"b/", "/0", "c/", "/5", "d/", "/12"}},
		{[]string{"a", "b", "c"}, []string{"a/", "b/", "c/"}},
		{[]string{"a/0", "0", "a/5", "5"}, []string{"/0", "0/", "/5", "5/"}},
		{[]string{longPath(200), longPath(199), longPath(198)}, []string{"/0", "/202", "/403"}},
	} {
		var list []impl.Entry
		for i, path := range c.paths {
			list = append(list, file(path, strings.Repeat("b", i)))
		}
		checkBoth(t, "a table", list...)
		s, _ := impl.PutGnuAr(list)
		for i, start := range gnuAr().starts(list)[:len(list)] {
			if got := strings.TrimRight(s[start:start+16], " "); got != c.offsets[i] {
				t.Errorf("the name of %q is %q, want %q", c.paths[i], got, c.offsets[i])
			}
		}
	}
	// The longest table there is.
	var list []impl.Entry
	for i := range 30 {
		list = append(list, file(string(rune('A'+i))+longPath(200)[1:], impl.DecText(i)))
	}
	checkBoth(t, "the longest table", list...)
	s, _ := impl.PutGnuAr(list)
	if last := gnuAr().starts(list)[29]; s[last:last+16] != "/5858           " || s[56:66] != "6060      " {
		t.Errorf("the table starts with %q, and the last member with %q", s[8:68], s[last:last+16])
	}
}

// Bodies and tables of odd and even length and no length at all, one behind the other.
func TestArPadding(t *testing.T) {
	bodies := []string{"", "o", "ee", "odd", "\n", "\n\n"}
	// With the first two there is no table, with the others it is of odd and of even length.
	for _, path := range []string{"p", "#", "p/q", "p/qq", "seventeen_bytes_x", "eighteen_bytes_xxx"} {
		for _, first := range bodies {
			for _, second := range bodies {
				for _, third := range bodies {
					checkBoth(t, "three Bodies", file(path, first), file("n", second), file("m", third))
					checkBoth(t, "three Bodies", file("n", first), file(path, second), file(path+"x", third))
				}
			}
		}
	}
	for _, c := range []struct {
		path, body string
		gnu, bsd   int
	}{
		// The name is counted with the Body where it stands in front of it.
		{"p", "", 68, 68}, {"p", "1", 70, 70}, {"p", "12", 70, 70}, {"p", "123", 72, 72},
		{"#", "", 68, 70}, {"#", "1", 70, 70}, {"#", "12", 70, 72}, {"#2", "", 68, 70}, {"#2", "1", 70, 72},
		{"a/b", "", 134, 72}, {"a/b", "1", 136, 72}, {"a/b", "12", 136, 74},
		{"a/bc", "", 134, 72}, {"a/bc", "1", 136, 74}, {"a/bc", "12", 136, 74},
	} {
		gnu, _ := impl.PutGnuAr([]impl.Entry{file(c.path, c.body)})
		bsd, _ := impl.PutBsdAr([]impl.Entry{file(c.path, c.body)})
		if len(gnu) != c.gnu || len(bsd) != c.bsd {
			t.Errorf("with %q and %q there are %d and %d bytes, want %d and %d", c.path, c.body, len(gnu), len(bsd), c.gnu, c.bsd)
		}
	}
}

func TestArBodiesComeBack(t *testing.T) {
	for _, size := range append(bodySizes(), 3, 4, 5, 59, 60, 61, 2998) {
		for _, fill := range []string{"\x00", "x", "\n", "\xff", " ", "\x60\n", arLine, arHead("a/", arEntry(), 0), "a/b/\n"} {
			body := strings.Repeat(fill, size/len(fill)+1)[:size]
			checkBoth(t, "a Body", file("a", body), file("a/b", body), file("#", body))
		}
	}
	checkBoth(t, "every byte", file("a", everyByte()), file("a/b", everyByte()+"x"))
}

// A body may be an archive itself.
func TestArInAr(t *testing.T) {
	for _, k := range arKinds() {
		inner := k.archive(arList())
		checkBoth(t, "an archive in an archive", file("a", inner), file("a/b", inner[8:]), file("b", inner[:67]), file("c", tableOf("a/b/\n")))
	}
}

func TestArManyEntries(t *testing.T) {
	for _, length := range []int{1, 2, 29, 30} {
		checkBoth(t, "many files", files(length)...)
		var long []impl.Entry
		for i := range length {
			long = append(long, file("a/"+strings.Repeat("x", i+1), strings.Repeat("b", i)))
		}
		checkBoth(t, "many names", long...)
	}
	for _, length := range []int{31, 32, 60} {
		for _, k := range arKinds() {
			k.checkNotWritten(t, "too many files", files(length))
			k.checkNotRead(t, "too many files", k.archive(files(length)), impl.RdBad)
		}
	}
}

func TestPutArRefuses(t *testing.T) {
	for _, k := range arKinds() {
		checkRefused(t, "Put"+k.name, k.put)
		refused := 0
		for _, e := range arEntries() {
			if fitsAr(e) {
				continue
			}
			refused++
			for _, list := range [][]impl.Entry{{e}, {file("a/f", ""), file("z", ""), e}, {e, file("z", "")}} {
				k.checkNotWritten(t, "an entry that does not fit", list)
			}
		}
		if refused < 300 {
			t.Errorf("only %d entries do not fit", refused)
		}
		k.checkNotWritten(t, "a 30th entry that does not fit", append(files(29), impl.Entry{Path: "z", Uid: 1000000}))
		k.checkNotWritten(t, "a Path twice", []impl.Entry{file("a", "1"), file("b", ""), file("a", "2")})
		k.checkNotWritten(t, "a long Path twice", []impl.Entry{file("a/b", "1"), file("a/b", "2")})
		for _, e := range oneOfEach()[1:] {
			list := []impl.Entry{file("a/f", "body"), e}
			if !isList(list) {
				t.Fatalf("%+v is invalid", list)
			}
			k.checkNotWritten(t, "an entry of another kind", list)
		}
	}
}

// The members of an archive are what GetMember reads, each from an even index on.
func TestArIsMembers(t *testing.T) {
	for _, k := range arKinds() {
		for _, list := range [][]impl.Entry{nil, arList(), files(30), reducedToAr(greatList())} {
			s, ok := k.put(list)
			if !ok {
				t.Fatalf("Put%s refuses the list", k.name)
			}
			at := len(k.start(list))
			for _, e := range list {
				name, told, size, code := impl.GetMember(s, at)
				if code != impl.RdOk || at%2 != 0 || told != (impl.Entry{Time: e.Time, Uid: e.Uid, Gid: e.Gid, Mode: e.Mode}) || s[at:at+60] != impl.PutMember(name, e, size) {
					t.Fatalf("the member at %d is %q, %+v, %d, %d", at, name, told, size, code)
				}
				if data := s[at+60 : at+60+size]; !strings.HasSuffix(data, e.Body) {
					t.Errorf("the data of %q is %q", e.Path, data)
				}
				at += 60 + size + size%2
			}
			if at != len(s) {
				t.Errorf("the archive ends at %d, not at %d", len(s), at)
			}
		}
	}
}
