package tests

import (
	"archive/tar"
	"slices"
	"strconv"
	"strings"
	"testing"

	"loop.example/g00413/impl"
)

// Promise 5, every valid list is recovered from its pax archive: PutPax, GetPax of what it wrote, and Records.

// specialOf returns a special file as it stands in an archive, in other words than the program does.
func specialOf(flag string, path string, body string) string {
	return headOf(impl.Entry{Path: path, Mode: 0o644}, flag, len(body)) + body + strings.Repeat("\x00", (len(body)+511)/512*512-len(body))
}

// globalOf returns the first file of every archive.
func globalOf() string {
	return specialOf("g", "pax_global", "18 comment=crates\n")
}

// recordsOf returns the file of records for the next entry.
func recordsOf(records ...impl.Record) string {
	return specialOf("x", "pax_x", textsOfRecords(records))
}

// paxRecordOf returns a valid entry as it stands in an archive, with its file of records if it needs one.
func paxRecordOf(e impl.Entry) string {
	base, records := reduced(e)
	if len(records) > 0 {
		return recordsOf(records...) + recordOf(base)
	}
	return recordOf(base)
}

// paxOf returns the archive of valid entries, whether their list is valid or not.
func paxOf(list []impl.Entry) string {
	text := globalOf()
	for _, e := range list {
		text += paxRecordOf(e)
	}
	return text + strings.Repeat("\x00", 1024)
}

// flagsIn returns the flags of the headers of a complete archive.
func flagsIn(s string) string {
	flags := ""
	for at := 0; s[at] != 0; {
		size, _ := strconv.ParseInt(s[at+124:at+135], 8, 64)
		flags += s[at+156 : at+157]
		at += 512 + (int(size)+511)/512*512
	}
	return flags
}

// greatList returns a list of 30 entries of every kind, most of which need records.
func greatList() []impl.Entry {
	list := []impl.Entry{
		file("f", "hi"), file("x", ""), file(deepPath("f"), everyByte()), file(widePath("f"), strings.Repeat("b", 3000)), file(longPath(100), strings.Repeat("\x00", 1024)),
		{Kind: impl.KFile, Path: "great", Mode: 4095, Uid: 4294967295, Gid: 4294967295, Time: 99999999999, User: strings.Repeat("u", 20), Group: strings.Repeat("g", 20), Body: "10 path=a\n"},
		{Kind: impl.KFile, Path: "limits", Uid: 2097151, Gid: 2097151, Time: 8589934591},
		{Kind: impl.KFile, Path: "beyond", Uid: 2097152, Gid: 2097152, Time: 8589934592},
		{Kind: impl.KDir, Path: deepPath("d"), Gid: 2097152},
		{Kind: impl.KSym, Path: deepPath("s"), Link: strings.Repeat("l", 150), Uid: 2097152},
		hard(deepPath("g"), "f"), hard("h", deepPath("f")), hard("h/f", widePath("f")), hard("h/x", "x"), hard("i", longPath(100)),
		sym("s", "s"), sym("t", strings.Repeat("l", 101)), sym("u", strings.Repeat("l", 100)), dir("d"), dir(longPath(200)),
	}
	// As deep as the file f, so that in its header it would lead to itself.
	list = append(list, hard(strings.Replace(deepPath("f"), "a", "A", 1), "f"), hard(strings.Replace(deepPath("x"), "a", "A", 1), "x"))
	return append(list, files(10)[2:]...)
}

// somePaxLists returns valid lists with all that a pax archive can hold.
func somePaxLists() [][]impl.Entry {
	result := [][]impl.Entry{nil, {}, fullList(), greatList(), files(29), files(30)}
	for _, e := range paxEntries() {
		list := []impl.Entry{e}
		if e.Kind == impl.KHard {
			list = []impl.Entry{file(e.Link, "of the link"), dir("d"), e}
		}
		if isList(list) {
			result = append(result, list)
		}
	}
	for _, list := range lists(3) {
		if isList(list) {
			result = append(result, list)
		}
	}
	return result
}

func checkPax(t *testing.T, name string, s string, list []impl.Entry) {
	t.Helper()
	if got, code := impl.GetPax(s); code != impl.RdOk || !impl.SameList(got, list) {
		t.Errorf("GetPax of %s reads %+v, want %+v, and returns %d", name, got, list, code)
	}
	if got, want := impl.Records(s), strings.Count(flagsIn(s), "x"); got != want {
		t.Errorf("Records of %s is %d, want %d", name, got, want)
	}
}

// checkNoPax fails unless GetPax refuses s with the code and tells nothing else.
func checkNoPax(t *testing.T, name string, s string, want int) {
	t.Helper()
	if got, code := impl.GetPax(s); code != want || len(got) != 0 {
		t.Errorf("GetPax of %s reads %d entries and returns %d, want %d", name, len(got), code, want)
	}
	if got := impl.Records(s); got != 0 {
		t.Errorf("Records of %s is %d", name, got)
	}
}

// Every valid list is recovered from its pax archive.
func TestPaxListComesBack(t *testing.T) {
	if list := greatList(); !isList(list) || len(list) != 30 {
		t.Fatalf("the great list is invalid or has %d entries", len(list))
	}
	checked, withRecords := 0, 0
	for _, list := range somePaxLists() {
		s, ok := impl.PutPax(list)
		if want := paxOf(list); s != want || !ok {
			t.Fatalf("PutPax(%+v) has %d bytes, %v; want %d", list, len(s), ok, len(want))
		}
		checkPax(t, "a valid list", s, list)
		checked++
		if strings.Contains(flagsIn(s), "x") {
			withRecords++
		}
	}
	if checked < 800 || withRecords < 500 {
		t.Errorf("only %d lists are valid, %d with records", checked, withRecords)
	}
	for _, size := range bodySizes() {
		for _, fill := range []string{"\x00", "x", "\xff", "6 k=v\n"} {
			list := []impl.Entry{file(deepPath("a"), strings.Repeat(fill, size)[:size]), hard("h", deepPath("a"))}
			s, _ := impl.PutPax(list)
			checkPax(t, "a body", s, list)
		}
	}
}

func TestPaxLayout(t *testing.T) {
	nuls := func(n int) string { return strings.Repeat("\x00", n) }
	s, ok := impl.PutPax(nil)
	global := headOf(impl.Entry{Path: "pax_global", Mode: 420}, "g", 18)
	if want := global + "18 comment=crates\n" + nuls(494) + nuls(1024); s != want || !ok {
		t.Errorf("the archive of the empty list is %q", s)
	}
	checkPax(t, "the empty list", s, nil)
	long := deepPath("f")
	s, ok = impl.PutPax([]impl.Entry{file("f", "hi"), {Kind: impl.KHard, Path: long, Link: "f", Mode: 420, Uid: 4294967295, Gid: 4294967295, Time: 99999999999}})
	body := "210 path=" + long + "\n" + "14 linkpath=f\n" + "18 uid=4294967295\n" + "18 gid=4294967295\n" + "21 mtime=99999999999\n"
	want := global + "18 comment=crates\n" + nuls(494) +
		headOf(file("f", "hi"), "0", 2) + "hi" + nuls(510) +
		headOf(impl.Entry{Path: "pax_x", Mode: 420}, "x", len(body)) + body + nuls(512-len(body)) +
		headOf(hard("f", "x"), "1", 0) + nuls(1024)
	if s != want || !ok {
		t.Errorf("the archive is %q, want %q", s, want)
	}
	// The longest records that there are still fit into one block.
	both := []impl.Entry{file(widePath("f"), ""), file(deepPath("g"), "")}
	last := hard(deepPath("h"), deepPath("g"))
	last.Uid, last.Gid, last.Time = 4294967295, 4294967295, 99999999999
	both = append(both, last)
	s, _ = impl.PutPax(both)
	if got := flagsIn(s); got != "g0x0x1" || len(s) != 1024+512+(1024+512)+(1024+512)+1024 {
		t.Errorf("the headers have the flags %q, the archive %d bytes", got, len(s))
	}
	checkPax(t, "the longest records", s, both)
}

func TestRecords(t *testing.T) {
	great, late := file("a", ""), dir("b")
	great.Uid, late.Time = 2097152, 8589934592
	for _, c := range []struct {
		list []impl.Entry
		want int
	}{
		{nil, 0},
		{[]impl.Entry{file("a", "x")}, 0},
		{files(30), 0},
		{[]impl.Entry{great}, 1},
		{[]impl.Entry{great, late}, 2},
		{[]impl.Entry{great, dir("d"), late, sym("s", "x")}, 2},
		{[]impl.Entry{file("f", ""), hard(deepPath("f"), "f"), dir(deepPath("d"))}, 2},
		{[]impl.Entry{dir(widePath("d")), dir(deepPath("d"))}, 1},
	} {
		s, _ := impl.PutPax(c.list)
		if got := impl.Records(s); got != c.want {
			t.Errorf("Records of the archive of %+v is %d, want %d", c.list, got, c.want)
		}
		// A body that looks like a file of records is none.
		inner := append([]impl.Entry{file("inner", recordsOf(impl.Record{Key: "uid", Value: "2097152"})+recordOf(file("a", "")))}, c.list...)
		if s, ok := impl.PutPax(inner); ok && impl.Records(s) != c.want {
			t.Errorf("with a body of headers Records is %d, want %d", impl.Records(s), c.want)
		}
	}
	var all []impl.Entry
	for _, e := range files(30) {
		e.Gid = 2097152
		all = append(all, e)
	}
	s, _ := impl.PutPax(all)
	if got := impl.Records(s); got != 30 {
		t.Errorf("Records of 30 entries is %d", got)
	}
	// Other strings have none, even if such headers stand there.
	for _, other := range []string{"", "x", s[1:], s[:len(s)-1], s + "\x00", s[1024:], archiveOf(all[:0]), recordsOf(impl.Record{Key: "uid", Value: "2097152"})} {
		if got := impl.Records(other); got != 0 {
			t.Errorf("Records of another string is %d", got)
		}
	}
}

// A body may be an archive itself.
func TestPaxInPax(t *testing.T) {
	inner := paxOf([]impl.Entry{file("in", "x")})
	list := []impl.Entry{file("a", inner[:3000]), file("b", globalOf()), file(deepPath("c"), inner[512:1024]), file("d", strings.Repeat("\x00", 1024)), dir("e")}
	s, ok := impl.PutPax(list)
	if !ok || s != paxOf(list) {
		t.Error("PutPax fails")
	}
	checkPax(t, "an archive in an archive", s, list)
}

func TestLibraryReadsPax(t *testing.T) {
	for _, list := range [][]impl.Entry{greatList(), fullList()} {
		s, _ := impl.PutPax(list)
		reader := tar.NewReader(strings.NewReader(s))
		if h, err := reader.Next(); err != nil || h.Typeflag != tar.TypeXGlobalHeader || h.PAXRecords["comment"] != "crates" || len(h.PAXRecords) != 1 {
			t.Errorf("the first header is %+v, %v", h, err)
		}
		// An entry without records is an ustar one.
		checkLibrary(t, reader, list, tar.FormatPAX|tar.FormatUSTAR)
	}
}

// allInvalidLists returns invalid lists, those with an invalid entry at each place among them.
func allInvalidLists() map[string][]impl.Entry {
	lists := greatInvalidLists()
	for i, e := range slices.DeleteFunc(manyEntries(), isEntry) {
		number := " " + impl.DecText(i)
		lists["an invalid entry"+number] = []impl.Entry{e}
		lists["an invalid last entry"+number] = []impl.Entry{file("a/f", ""), dir("z"), e}
		lists["an invalid first entry"+number] = []impl.Entry{e, file("z", "")}
	}
	return lists
}

// checkRefused fails unless the writer refuses all invalid lists.
func checkRefused(t *testing.T, name string, put func([]impl.Entry) (string, bool)) {
	t.Helper()
	lists := allInvalidLists()
	if len(lists) < 300 {
		t.Errorf("there are only %d invalid lists", len(lists))
	}
	for what, list := range lists {
		if s, ok := put(list); s != "" || ok {
			t.Errorf("%s of %s has %d bytes, %v", name, what, len(s), ok)
		}
	}
}

func TestPutPaxRefuses(t *testing.T) {
	checkRefused(t, "PutPax", impl.PutPax)
}
