package tests

import (
	"fmt"
	"math"
	"slices"
	"strings"
	"testing"

	"loop.example/g00413/impl"
)

// Promise 5, an entry is put together again from what an ustar header can represent and the records: Base1 and Apply.

// deepPath returns a path of 200 bytes that Split does not divide and whose Base is the given one, of at most 40 bytes.
func deepPath(base string) string {
	return pathOf(37, 57, 60, 42-len(base)) + "/" + base
}

// widePath returns a path of more than 100 bytes that Split divides and whose Base is the given one.
func widePath(base string) string {
	return pathOf(60, 50) + "/" + base
}

func TestDeepAndWidePaths(t *testing.T) {
	for _, base := range []string{"f", "x", "y", strings.Repeat("f", 40)} {
		if _, _, ok := divided(deepPath(base)); ok || !isPath(deepPath(base)) {
			t.Errorf("%q is divided", deepPath(base))
		}
		if prefix, _, ok := divided(widePath(base)); !ok || prefix == "" {
			t.Errorf("%q is not divided", widePath(base))
		}
	}
}

// reduced says what becomes of a valid entry in other words than the program does.
func reduced(e impl.Entry) (impl.Entry, []impl.Record) {
	var records []impl.Record
	last := func(path string) string { return path[strings.LastIndex(path, "/")+1:] }
	note := func(key string, value any) {
		records = append(records, impl.Record{Key: key, Value: fmt.Sprint(value)})
	}
	if _, _, ok := divided(e.Path); !ok {
		note("path", e.Path)
		e.Path = last(e.Path)
	}
	if isHard := e.Kind == impl.KHard; isHard && (len(e.Link) > 100 || e.Link == e.Path) {
		note("linkpath", e.Link)
		for _, e.Link = range []string{last(e.Link), "x", "y"} {
			if e.Link != e.Path {
				break
			}
		}
	} else if len(e.Link) > 100 {
		note("linkpath", e.Link)
		e.Link = e.Link[:100]
	}
	if e.Uid >= 1<<21 {
		note("uid", e.Uid)
		e.Uid = 0
	}
	if e.Gid >= 1<<21 {
		note("gid", e.Gid)
		e.Gid = 0
	}
	if e.Time >= 1<<33 {
		note("mtime", e.Time)
		e.Time = 0
	}
	return e, records
}

// paxEntries returns valid entries of every kind with all that an ustar header can and cannot represent.
func paxEntries() []impl.Entry {
	var list []impl.Entry
	paths := []string{"f", "x", "y", "a/b", longPath(100), longPath(101), longPath(200), pathOf(60, 37, 56, 44), pathOf(60, 37, 57, 43), deepPath("f"), deepPath("x"), deepPath("y"), widePath("f"), strings.Repeat("a/", 99) + "a", strings.Repeat("p", 60)}
	links := append([]string{"l", "l/x", "../up", "/", strings.Repeat("l", 99), strings.Repeat("l", 100), strings.Repeat("l", 101), strings.Repeat("l", 150), longPath(99), longPath(150), widePath("x"), widePath("y")}, paths...)
	for _, path := range paths {
		list = append(list, file(path, ""), file(path, everyByte()), dir(path))
		for _, link := range links {
			list = append(list, sym(path, link), hard(path, link))
		}
	}
	for _, e := range []impl.Entry{file("f", "body"), dir(deepPath("d")), sym(deepPath("s"), strings.Repeat("l", 150)), hard(deepPath("f"), "f")} {
		for _, uid := range []int{0, 2097151, 2097152, 4294967295} {
			for _, gid := range []int{0, 2097151, 2097152, 4294967295} {
				for _, time := range []int{0, 8589934591, 8589934592, 99999999999} {
					e.Uid, e.Gid, e.Time, e.User, e.Group = uid, gid, time, "ann", "staff"
					list = append(list, e)
				}
			}
		}
	}
	list = append(list, manyEntries()...)
	return slices.DeleteFunc(list, func(e impl.Entry) bool { return !isEntry(e) })
}

func checkBase(t *testing.T, name string, e impl.Entry, want impl.Entry, records ...impl.Record) {
	t.Helper()
	got, list := impl.Base1(e)
	if got != want || !slices.Equal(list, records) {
		t.Errorf("Base1 of %s is %+v, %q; want %+v, %q", name, got, list, want, records)
	}
}

func pathRecord(path string) impl.Record {
	return impl.Record{Key: "path", Value: path}
}

func linkRecord(link string) impl.Record {
	return impl.Record{Key: "linkpath", Value: link}
}

func TestBaseOfPathsAndLinks(t *testing.T) {
	hundred := strings.Repeat("l", 100)
	long := longPath(101)
	for _, e := range []impl.Entry{
		file("f", "body"), dir("d"), sym("s", "to"), hard("h", "f"),
		file(longPath(100), ""), dir(longPath(101)), file(pathOf(60, 37, 56, 44), ""), dir(widePath("f")),
		sym("s", hundred), sym("s", "s"), hard("h", longPath(100)), hard("h", "d/h"), hard("d/h", "h"),
		// Divided, the Path stays as it is, and the hard link does not lead to it.
		hard(widePath("f"), "f"),
	} {
		checkBase(t, "an entry that fits", e, e)
	}
	for _, e := range []impl.Entry{file("f", "body"), dir("f"), sym("f", "to")} {
		deep := e
		deep.Path = deepPath("f")
		checkBase(t, "a Path that is not divided", deep, e, pathRecord(deepPath("f")))
	}
	checkBase(t, "a Link of 101 bytes", sym("s", hundred+"m"), sym("s", hundred), linkRecord(hundred+"m"))
	checkBase(t, "a Link of 150 bytes", sym("s", hundred+hundred[:50]), sym("s", hundred), linkRecord(hundred+hundred[:50]))
	checkBase(t, "a Link with slashes", sym("s", long), sym("s", long[:100]), linkRecord(long))
	// A symbolic link may lead to its own Path.
	checkBase(t, "a symbolic link to its Base", sym(deepPath("s"), "s"), sym("s", "s"), pathRecord(deepPath("s")))
	path := longPath(100)
	checkBase(t, "a symbolic link that begins with its Path", sym(path, path+"/l"), sym(path, path), linkRecord(path+"/l"))
	checkBase(t, "a hard link to 101 bytes", hard("h", long), hard("h", impl.Base(long)), linkRecord(long))
	checkBase(t, "a hard link to a path with a prefix", hard("h", widePath("f")), hard("h", "f"), linkRecord(widePath("f")))
	checkBase(t, "a deep hard link", hard(deepPath("h"), "f"), hard("h", "f"), pathRecord(deepPath("h")))
	checkBase(t, "a deep hard link to a longer Link", hard(deepPath("h"), "f/h"), hard("h", "f/h"), pathRecord(deepPath("h")))
}

// A hard link never leads to its own Path in its header.
func TestBaseOfHardLinksToThemselves(t *testing.T) {
	deep, wide := deepPath, widePath
	checkBase(t, "a Link that equals the Path then", hard(deep("f"), "f"), hard("f", "x"), pathRecord(deep("f")), linkRecord("f"))
	checkBase(t, "one where that is x", hard(deep("x"), "x"), hard("x", "y"), pathRecord(deep("x")), linkRecord("x"))
	checkBase(t, "one where that is y", hard(deep("y"), "y"), hard("y", "x"), pathRecord(deep("y")), linkRecord("y"))
	checkBase(t, "a Base of the Link that equals the Path", hard("f", wide("f")), hard("f", "x"), linkRecord(wide("f")))
	checkBase(t, "one where that is x", hard("x", wide("x")), hard("x", "y"), linkRecord(wide("x")))
	checkBase(t, "one where that is y", hard("y", wide("y")), hard("y", "x"), linkRecord(wide("y")))
	checkBase(t, "a Base that equals the Path then", hard(deep("f"), wide("f")), hard("f", "x"), pathRecord(deep("f")), linkRecord(wide("f")))
	checkBase(t, "one where that is x", hard(deep("x"), wide("x")), hard("x", "y"), pathRecord(deep("x")), linkRecord(wide("x")))
	checkBase(t, "the Path x and another Base", hard("x", wide("f")), hard("x", "f"), linkRecord(wide("f")))
	checkBase(t, "the Path f and the Base x", hard("f", wide("x")), hard("f", "x"), linkRecord(wide("x")))
	checkBase(t, "the Path x and a short Link", hard("x", "f"), hard("x", "f"))
	checkBase(t, "the Path x and the Link a/x", hard("x", "a/x"), hard("x", "a/x"))
	checkBase(t, "the Path a/f and the Base f", hard("a/f", wide("f")), hard("a/f", "f"), linkRecord(wide("f")))
}

func TestBaseOfNumbers(t *testing.T) {
	number := func(key string, n int) impl.Record { return impl.Record{Key: key, Value: fmt.Sprint(n)} }
	for _, e := range oneOfEach() {
		for n, fits := range map[int]bool{0: true, 1: true, 2097150: true, 2097151: true, 2097152: false, 2097153: false, 4294967294: false, 4294967295: false} {
			owner, group := e, e
			owner.Uid, group.Gid = n, n
			if fits {
				checkBase(t, "a Uid that fits", owner, owner)
				checkBase(t, "a Gid that fits", group, group)
			} else {
				checkBase(t, "a great Uid", owner, e, number("uid", n))
				checkBase(t, "a great Gid", group, e, number("gid", n))
			}
		}
		for n, fits := range map[int]bool{0: true, 4294967296: true, 8589934590: true, 8589934591: true, 8589934592: false, 8589934593: false, 99999999998: false, 99999999999: false} {
			late := e
			late.Time = n
			if fits {
				checkBase(t, "a Time that fits", late, late)
			} else {
				checkBase(t, "a great Time", late, e, number("mtime", n))
			}
		}
	}
	all := hard(deepPath("f"), "f")
	all.Uid, all.Gid, all.Time, all.User, all.Group = 2097152, 4294967295, 99999999999, "ann", "staff"
	base := hard("f", "x")
	base.User, base.Group = "ann", "staff"
	checkBase(t, "an entry that needs all records", all, base,
		pathRecord(deepPath("f")), linkRecord("f"), number("uid", 2097152), number("gid", 4294967295), number("mtime", 99999999999))
}

func TestBaseOfInvalidEntries(t *testing.T) {
	refused := 0
	for _, e := range append(manyEntries(), impl.Entry{}, hard(deepPath("f"), deepPath("f")), impl.Entry{Path: deepPath("f"), Uid: 4294967296}, sym("s", strings.Repeat("l", 151))) {
		if isEntry(e) {
			continue
		}
		refused++
		if base, records := impl.Base1(e); base != (impl.Entry{}) || len(records) != 0 {
			t.Errorf("Base1(%+v) = %+v, %v", e, base, records)
		}
	}
	if refused < 100 {
		t.Errorf("only %d entries are invalid", refused)
	}
}

// Apply of what Base1 returns is the entry; what Base1 returns fits into ustar, and its records are valid and few.
func TestEntryComesBack(t *testing.T) {
	counts := map[int]int{}
	for _, e := range paxEntries() {
		base, records := impl.Base1(e)
		want, list := reduced(e)
		if base != want || !slices.Equal(records, list) {
			t.Fatalf("Base1(%+v) = %+v, %v; want %+v, %v", e, base, records, want, list)
		}
		if !fitsUstar(base) || slices.ContainsFunc(records, func(r impl.Record) bool { return !isRecord(r) }) {
			t.Errorf("Base1(%+v) = %+v, %v, which cannot be written", e, base, records)
		}
		if got, ok := impl.Apply(base, records); got != e || !ok {
			t.Errorf("the entry %+v comes back as %+v, %v", e, got, ok)
		}
		if (len(records) == 0) != (base == e) {
			t.Errorf("%+v has the records %v", e, records)
		}
		counts[len(records)]++
	}
	for n := range 6 {
		if counts[n] < 1 {
			t.Errorf("no entry has %d records", n)
		}
	}
}

func checkApply(t *testing.T, e impl.Entry, list []impl.Record, want impl.Entry) {
	t.Helper()
	if got, ok := impl.Apply(e, list); got != want || !ok {
		t.Errorf("Apply(%+v, %q) = %+v, %v; want %+v", e, list, got, ok, want)
	}
}

func checkNoApply(t *testing.T, e impl.Entry, list ...impl.Record) {
	t.Helper()
	if got, ok := impl.Apply(e, list); got != (impl.Entry{}) || ok {
		t.Errorf("Apply(%+v, %q) = %+v, %v", e, list, got, ok)
	}
}

func TestApply(t *testing.T) {
	for _, e := range append(oneOfEach(), impl.Entry{}, impl.Entry{Kind: 9, Path: "/", Uid: -1, Body: "b"}) {
		checkApply(t, e, nil, e)
		checkApply(t, e, []impl.Record{}, e)
		changed := e
		var list []impl.Record
		add := func(key string, value string) {
			list = append(list, impl.Record{Key: key, Value: value})
			checkApply(t, e, list, changed)
			back := slices.Clone(list)
			slices.Reverse(back)
			checkApply(t, e, back, changed)
		}
		changed.Path = "new/path"
		add("path", "new/path")
		changed.Link = "new/link"
		add("linkpath", "new/link")
		changed.Uid = 11
		add("uid", "11")
		changed.Gid = 22222222222
		add("gid", "22222222222")
		changed.Time = 99999999999
		add("mtime", "99999999999")
	}
}

// Apply asks neither whether the entry is valid nor whether it will be.
func TestApplyDoesNotJudge(t *testing.T) {
	for _, value := range []string{"", "/", "..", "a b", strings.Repeat("p", 250), "x=y", "é"} {
		checkApply(t, file("a", "b"), []impl.Record{pathRecord(value)}, file(value, "b"))
		checkApply(t, sym("a", "b"), []impl.Record{linkRecord(value)}, sym("a", value))
		filled := file("a", "")
		filled.Link = value
		checkApply(t, file("a", ""), []impl.Record{linkRecord(value)}, filled)
	}
	// A hard link may lead to itself then, and a number may be beyond the limit of its field.
	checkApply(t, hard("a", "b"), []impl.Record{linkRecord("a")}, hard("a", "a"))
	checkApply(t, impl.Entry{}, []impl.Record{{Key: "uid", Value: "99999999999"}}, impl.Entry{Uid: 99999999999})
}

func TestApplyNumbers(t *testing.T) {
	fields := map[string]func(e *impl.Entry) *int{
		"uid":   func(e *impl.Entry) *int { return &e.Uid },
		"gid":   func(e *impl.Entry) *int { return &e.Gid },
		"mtime": func(e *impl.Entry) *int { return &e.Time },
	}
	for key, field := range fields {
		e := impl.Entry{Path: "a", Uid: 7, Gid: 8, Time: 9}
		for _, n := range []int{0, 1, 9, 10, 2097151, 2097152, 4294967295, 4294967296, 8589934592, 9999999999, 10000000000, 12345678901, 99999999999} {
			want := e
			*field(&want) = n
			checkApply(t, e, []impl.Record{{Key: key, Value: fmt.Sprint(n)}}, want)
		}
		for _, value := range []string{
			"", "00", "01", "012", "0000000000", "00000000001", "-1", "-0", "+1", " 1", "1 ", "1\n", "1\x00", "\x001", "1.0", "1.", ".1", "1e3", "0x1", "a", "1a", "a1", "1_0", "1,000", "\xd9\xa9", "/", ":", "0:", "0/",
			"100000000000", "999999999999", "000000000000", "000000000001", "123456789012", "9007199254740991", "9007199254740992", "9223372036854775808", "18446744073709551616", "18446744073709551617", strings.Repeat("9", 250), strings.Repeat("1", 5000),
		} {
			bad := impl.Record{Key: key, Value: value}
			checkNoApply(t, e, bad)
			checkNoApply(t, e, pathRecord("p"), bad)
			checkNoApply(t, e, bad, linkRecord("l"))
		}
	}
}

func TestApplyOtherAndEqualKeys(t *testing.T) {
	good := []impl.Record{pathRecord("p"), linkRecord("l"), {Key: "uid", Value: "1"}, {Key: "gid", Value: "2"}, {Key: "mtime", Value: "3"}}
	for _, e := range append(oneOfEach(), impl.Entry{}) {
		for _, key := range []string{"", "Path", "paths", "pat", "path ", " path", "comment", "size", "uname", "gname", "atime", "ctime", "mode", "link", "linkpat", "Uid", "time", "mtime\x00", "user", "x", "=", strings.Repeat("k", 30)} {
			for _, value := range []string{"", "1", "a"} {
				other := impl.Record{Key: key, Value: value}
				checkNoApply(t, e, other)
				checkNoApply(t, e, append(slices.Clone(good), other)...)
				checkNoApply(t, e, append([]impl.Record{other}, good...)...)
			}
		}
		for i, r := range good {
			checkNoApply(t, e, r, r)
			checkNoApply(t, e, append(slices.Clone(good), r)...)
			checkNoApply(t, e, append([]impl.Record{r}, good...)...)
			// Also if the second one says something else, and whatever stands between.
			twice := impl.Record{Key: r.Key, Value: "4"}
			checkNoApply(t, e, r, twice)
			checkNoApply(t, e, r, good[(i+1)%5], twice)
			checkNoApply(t, e, r, good[(i+1)%5], good[(i+2)%5], good[(i+3)%5], good[(i+4)%5], twice)
		}
	}
}

// The conventions: Base1 and Apply return new memory, change nothing and answer anything.
func TestPaxEntryConventions(t *testing.T) {
	own := func(s string) string { return strings.Clone(s) }
	for _, e := range []impl.Entry{
		{Kind: impl.KFile, Path: own(deepPath(strings.Repeat("f", 40))), User: strings.Repeat("u", 20), Group: strings.Repeat("g", 20), Body: strings.Repeat("b", 100)},
		{Kind: impl.KHard, Path: own(deepPath("f")), Link: own(widePath(strings.Repeat("f", 60)))},
		{Kind: impl.KHard, Path: own(longPath(90)), Link: own(longPath(80))},
		{Kind: impl.KSym, Path: own(longPath(100)), Link: strings.Repeat("l", 150), Uid: 4294967295, Time: 99999999999},
	} {
		base, records := impl.Base1(e)
		if base == (impl.Entry{}) {
			t.Fatalf("%+v is invalid", e)
		}
		given := textsOf([]impl.Entry{e})
		texts := textsOf([]impl.Entry{base})
		var values []string
		for _, r := range records {
			values = append(values, r.Value)
		}
		checkApart(t, "Base1", append(texts, values...), given)
		got, _ := impl.Apply(base, records)
		checkApart(t, "Apply", textsOf([]impl.Entry{got}), append(texts, values...))
		same, _ := impl.Apply(e, nil)
		checkApart(t, "Apply of nothing", textsOf([]impl.Entry{same}), given)
		again, _ := impl.Base1(e)
		checkApart(t, "Base1 again", textsOf([]impl.Entry{again}), texts)
	}
	whole := []impl.Record{pathRecord("p"), linkRecord("l"), {Key: "uid", Value: "1"}, pathRecord("q"), {Key: "other"}}
	before := slices.Clone(whole)
	for length := range len(whole) + 1 {
		impl.Apply(file("a", ""), whole[:length])
		impl.PutRecords(whole[:length])
		if !slices.Equal(whole, before) {
			t.Fatalf("the records are now %v", whole)
		}
	}
	huge := strings.Repeat("x/", 1<<15)
	odd := impl.Entry{Kind: math.MinInt, Path: huge, Link: huge, Mode: math.MinInt, Uid: math.MaxInt, Gid: math.MinInt, Time: math.MaxInt, User: huge, Group: huge, Body: huge}
	checkApply(t, odd, nil, odd)
	checkNoApply(t, odd, impl.Record{Key: huge, Value: huge})
	var many []impl.Record
	for range 10000 {
		many = append(many, pathRecord("p"))
	}
	checkNoApply(t, odd, many...)
}
