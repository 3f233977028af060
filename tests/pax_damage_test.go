package tests

import (
	"math/rand"
	"slices"
	"strconv"
	"strings"
	"testing"

	"loop.example/g00413/impl"
)

// Promise 5, an archive that GetPax accepts is PutPax of what it returned: GetPax of what PutPax did not write, and the conventions.

// scanned returns the code of the headers, bodies, paddings and the end of an archive, whatever the flags are, in other words than the program does.
func scanned(s string) int {
	nuls := strings.Repeat("\x00", 1024)
	for at := 0; ; {
		rest := s[at:]
		if rest == nuls {
			return impl.RdOk
		}
		if rest == "" || strings.HasPrefix(rest, nuls[:512]) {
			return impl.RdEnd
		}
		_, _, size, code := impl.GetHead(rest)
		if code != impl.RdOk {
			return code
		}
		next := 512 + (size+511)/512*512
		if len(rest) < next {
			return impl.RdCut
		}
		if strings.Trim(rest[512+size:next], "\x00") != "" {
			return impl.RdBad
		}
		at += next
	}
}

// judgePax fails if GetPax accepts what is not the archive of a list, or refuses something with another code than the one stated first. It returns the code.
func judgePax(t *testing.T, s string) int {
	t.Helper()
	list, code := impl.GetPax(s)
	want := impl.RdCut
	if len(s) >= 1024 {
		want = scanned(s)
	}
	switch again, ok := impl.PutPax(list); {
	case code == impl.RdOk && (want != impl.RdOk || !ok || again != s):
		t.Fatalf("%q is accepted as %+v", s, list)
	case code != impl.RdOk && len(list) != 0:
		t.Fatalf("%q has the code %d, but is read as %+v", s, code, list)
	case code != want && (want != impl.RdOk || code != impl.RdBad):
		t.Fatalf("%q has the code %d, want %d", s, code, want)
	}
	return code
}

// paxList returns a list with records of one and of several keys, and with bodies that have padding.
func paxList() []impl.Entry {
	great := file("a", "hello")
	great.Uid, great.Time = 2097152, 8589934592
	return []impl.Entry{great, dir("d"), hard(deepPath("a"), "a"), file("e", strings.Repeat("y", 513)), sym("s", strings.Repeat("l", 101))}
}

// placesIn returns where the headers of a complete archive begin, and last where its end does.
func placesIn(s string) []int {
	places := []int{0}
	at := 0
	for s[at] != 0 {
		size, _ := strconv.ParseInt(s[at+124:at+135], 8, 64)
		at += 512 + (int(size)+511)/512*512
		places = append(places, at)
	}
	return places
}

func TestPaxTooShort(t *testing.T) {
	whole := paxOf(paxList())
	for length := range 1024 {
		for _, s := range []string{whole, strings.Repeat("\x00", 1024), strings.Repeat("\xff", 1024), strings.Repeat("text ", 300), recordOf(dir("d")) + strings.Repeat("\x00", 1024)} {
			checkNoPax(t, "too few bytes", s[:length], impl.RdCut)
		}
	}
	checkNoPax(t, "1024 NULs", strings.Repeat("\x00", 1024), impl.RdBad)
	checkNoPax(t, "1025 NULs", strings.Repeat("\x00", 1025), impl.RdEnd)
	checkNoPax(t, "1024 bytes of text", strings.Repeat("text", 256), impl.RdSum)
	checkNoPax(t, "1024 bytes of an archive", whole[:1024], impl.RdEnd)
}

func TestPaxCutAtEveryLength(t *testing.T) {
	for _, list := range [][]impl.Entry{nil, paxList()} {
		s := paxOf(list)
		places := placesIn(s)
		end := places[len(places)-1]
		if end != len(s)-1024 {
			t.Fatalf("the end is at %d", end)
		}
		for length := range len(s) {
			want := impl.RdCut
			if length >= 1024 && (slices.Contains(places, length) || length >= end+512) {
				want = impl.RdEnd
			}
			checkNoPax(t, "the first "+impl.DecText(length)+" bytes", s[:length], want)
			judgePax(t, s[:length])
		}
		checkPax(t, "the whole archive", s, list)
	}
}

func TestPaxEnd(t *testing.T) {
	end := strings.Repeat("\x00", 1024)
	for _, list := range [][]impl.Entry{nil, {dir("d")}, paxList()} {
		members := strings.TrimSuffix(paxOf(list), end)
		for _, wrong := range wrongEnds(recordOf(dir("z")), paxOf(nil)) {
			checkNoPax(t, "an archive that ends with "+wrong.name, members+wrong.text, wrong.want)
			// It counts ahead of what is wrong with the entries.
			checkNoPax(t, "a wrong one that ends with "+wrong.name, specialOf("x", "pax_x", "text")+members+wrong.text, wrong.want)
		}
		checkPax(t, "an archive with its end", members+end, list)
	}
}

// Each member has its padding, the special files too.
func TestPaxPadding(t *testing.T) {
	list := paxList()
	s := paxOf(list)
	places := placesIn(s)
	padded := 0
	for _, at := range places[:len(places)-1] {
		size, _ := strconv.ParseInt(s[at+124:at+135], 8, 64)
		for i := at + 512 + int(size); i%512 != 0; i++ {
			checkNoPax(t, "an archive with a byte in a padding", with(s, i, "\x01"), impl.RdBad)
			// It counts ahead of what comes later, and an incomplete padding counts ahead of it.
			checkNoPax(t, "one without an end", with(s, i, "\x01")[:len(s)-1024], impl.RdBad)
			if at > 0 {
				checkNoPax(t, "one with a cut padding", with(s, i, "\x01")[:(i+512)/512*512-1], impl.RdCut)
			}
			padded++
		}
	}
	if padded < 2000 {
		t.Errorf("there are only %d bytes of padding", padded)
	}
}

// Each code of a header ends the reading, wherever the header is.
func TestBadHeaderInPax(t *testing.T) {
	s := paxOf(paxList())
	for _, at := range placesIn(s) {
		for _, plain := range []string{recordOf(file("z", "body")), globalOf(), recordsOf(impl.Record{Key: "uid", Value: "2097152"}), specialOf("?", "unknown", "body")} {
			for _, c := range []struct {
				name, member string
				want         int
			}{
				{"a wrong byte", with(plain, 1, "~"), impl.RdSum},
				{"a wrong checksum", with(plain, 148, "000000"), impl.RdSum},
				{"a wrong checksum and a wrong number", with(plain, 100, "x"), impl.RdSum},
				{"a malformed number", rewritten(plain, 100, "x"), impl.RdField},
				{"a malformed number and a wrong magic", rewritten(rewritten(plain, 100, "x"), 257, "x"), impl.RdField},
				{"a size over MaxBody", rewritten(plain, 124, "00000005671"), impl.RdField},
				{"a wrong magic", rewritten(plain, 257, "x"), impl.RdBad},
				{"a name that is no path", rewritten(plain, 0, "/"), impl.RdBad},
				{"a link to nowhere", rewritten(plain, 156, "2"), impl.RdBad},
			} {
				checkNoPax(t, c.name, s[:at]+c.member+s[at:], c.want)
				if at > 0 {
					checkNoPax(t, c.name+" and no body", s[:at]+c.member[:512], c.want)
					checkNoPax(t, c.name+" and a byte in the padding", s[:at]+with(c.member, 1023, "x"), c.want)
				}
			}
			if at > 0 {
				// With a right header the body counts, whatever the flag.
				checkNoPax(t, "a right header without its body", s[:at]+plain[:512], impl.RdCut)
				checkNoPax(t, "a right header with half a body", s[:at]+plain[:1023], impl.RdCut)
				checkNoPax(t, "a right header with a byte in the padding", s[:at]+with(plain, 1023, "x"), impl.RdBad)
				checkNoPax(t, "a right header and nothing more", s[:at]+plain, impl.RdEnd)
			}
		}
	}
}

// checkBadPax fails unless members that are complete, but not as PutPax writes them, give RdBad, and only after all else.
func checkBadPax(t *testing.T, name string, members ...string) {
	t.Helper()
	nuls := strings.Repeat("\x00", 1024)
	s := strings.Join(members, "")
	checkNoPax(t, name, s+nuls, impl.RdBad)
	checkNoPax(t, name+", with a wrong end", s+nuls+"x", impl.RdEnd)
	checkNoPax(t, name+", with a broken header", s+with(globalOf(), 1, "~")+nuls, impl.RdSum)
	checkNoPax(t, name+", with a malformed header", s+rewritten(globalOf(), 100, "x")+nuls, impl.RdField)
	checkNoPax(t, name+", with half a member", s+recordOf(file("z", "body"))[:700]+strings.Repeat("\x00", 323), impl.RdCut)
}

func TestPaxFirstHeader(t *testing.T) {
	global, plain, needy := globalOf(), recordOf(file("a", "x")), paxRecordOf(dir(deepPath("d")))
	checkBadPax(t, "nothing")
	checkBadPax(t, "no first header", plain)
	checkBadPax(t, "no first header, with records", needy)
	checkBadPax(t, "two first headers", global, global)
	checkBadPax(t, "two first headers and an entry", global, global, plain)
	checkBadPax(t, "the first header last", plain, global)
	checkBadPax(t, "the first header behind one with records", needy, global, plain)
	checkBadPax(t, "a second one between entries", global, plain, global, needy)
	checkBadPax(t, "one between the records and their entry", global, needy[:1024], global, needy[1024:])
	checkBadPax(t, "the records of an entry as the first", needy[:1024], global, needy[1024:])
	checkBadPax(t, "an empty comment", specialOf("g", "pax_global", ""), plain)
	checkBadPax(t, "another comment", specialOf("g", "pax_global", "18 comment=Crates\n"), plain)
	checkBadPax(t, "another key", specialOf("g", "pax_global", "18 Comment=crates\n"), plain)
	checkBadPax(t, "two comments", specialOf("g", "pax_global", "18 comment=crates\n18 comment=crates\n"), plain)
	checkBadPax(t, "records for all entries", specialOf("g", "pax_global", "15 uid=2097152\n"), plain)
	checkBadPax(t, "another Path", specialOf("g", "pax_globa", "18 comment=crates\n"), plain)
	checkBadPax(t, "the flag of records", specialOf("x", "pax_global", "18 comment=crates\n"), plain)
	checkBadPax(t, "the flag of a file", specialOf("0", "pax_global", "18 comment=crates\n"), plain)
	checkBadPax(t, "an unknown flag", specialOf("G", "pax_global", "18 comment=crates\n"), plain)
	for at, text := range map[int]string{100: "0000755", 108: "0000001", 116: "0000001", 136: "00000000001", 265: "ann", 297: "ann"} {
		checkBadPax(t, "another field", rewritten(global, at, text), plain)
	}
}

func TestPaxRecordsInWrongPlaces(t *testing.T) {
	global, plain := globalOf(), recordOf(file("a", "x"))
	uid := recordsOf(impl.Record{Key: "uid", Value: "2097152"})
	great := file("b", "x")
	great.Uid = 2097152
	checkPax(t, "records in their place", global+uid+recordOf(file("b", "x"))+plain+strings.Repeat("\x00", 1024), []impl.Entry{great, file("a", "x")})
	checkBadPax(t, "two headers in a row", global, uid, uid, plain)
	checkBadPax(t, "two different headers in a row", global, recordsOf(impl.Record{Key: "gid", Value: "2097152"}), uid, plain)
	checkBadPax(t, "no entry behind", global, uid)
	checkBadPax(t, "no entry behind at the end", global, plain, uid)
	checkBadPax(t, "no entry, but an unknown flag", global, uid, specialOf("?", "a", "x"))
	checkBadPax(t, "an unknown flag between", global, uid, specialOf("?", "a", "x"), plain)
	checkBadPax(t, "records for the entry in front", global, plain, uid, specialOf("?", "a", "x"))
	for at, text := range map[int]string{0: "pax_y", 100: "0000755", 108: "0000001", 116: "0000001", 136: "00000000001", 156: "X", 265: "ann", 297: "ann"} {
		checkBadPax(t, "a header with another field", global, rewritten(uid, at, text), plain)
	}
}

// Records that PutPax would not write.
func TestPaxWrongRecords(t *testing.T) {
	global := globalOf()
	body := func(text string, member string) {
		t.Helper()
		checkBadPax(t, "the records "+text, global, specialOf("x", "pax_x", text), member)
	}
	plain, deep := recordOf(file("f", "x")), textOf(pathRecord(deepPath("f")))
	checkPax(t, "a long Path", global+specialOf("x", "pax_x", deep)+plain+strings.Repeat("\x00", 1024), []impl.Entry{file(deepPath("f"), "x")})
	for _, text := range []string{
		"", "\n", "text", "\x00", "6 k=v\n", "18 comment=crates\n", "9 path=f\n", "9 path=g\n", "8 path=\n", "8 uid=7\n", "8 uid=0\n", "15 uid=2097151\n", "15 gid=2097151\n", "20 mtime=8589934591\n",
		"16 uid=02097152\n", "16 uid=2097152\n", "14 uid=2097152\n", "15 uid=2097152", "15 uid=2097152\n ", "15 uid=2097152\n\n", " 15 uid=2097152\n", "16 uid= 2097152\n", "16 uid=+2097152\n", "16 uid=-2097152\n", "15 UID=2097152\n",
		"18 uid=4294967296\n", "18 gid=4294967296\n", "19 uid=99999999999\n", "22 mtime=100000000000\n", "23 mtime=8589934592.0\n",
		"15 uid=2097152\n15 uid=2097152\n", "15 gid=2097152\n15 uid=2097152\n", "20 mtime=8589934592\n15 gid=2097152\n", "15 uid=2097152\n8 gid=7\n", "15 uid=2097152\n6 k=v\n",
		textOf(pathRecord(widePath("f"))), textOf(pathRecord(longPath(100))), textOf(pathRecord(deepPath("g"))), deep + deep, deep + "9 path=f\n", "15 uid=2097152\n" + deep, textOf(pathRecord(deepPath("f") + "f")), textOf(linkRecord("g")), deep + textOf(linkRecord("g")),
		strings.Repeat("6 k=v\n", 20), strings.Repeat("6 k=v\n", 21), strings.Repeat("15 uid=2097152\n", 21),
	} {
		body(text, plain)
	}
	// What the header has instead must be what Base1 puts there.
	for _, e := range []impl.Entry{file("g", "x"), file("f/f", "x"), file(longPath(100), "x"), file(pathOf(37, 57), "x")} {
		body(deep, recordOf(e))
	}
	owned := file("f", "x")
	owned.Uid = 1
	body("15 uid=2097152\n", recordOf(owned))
	body("15 uid=2097152\n15 gid=2097152\n", recordOf(owned))
	owned.Uid, owned.Time = 0, 5
	body("20 mtime=8589934592\n", recordOf(owned))
	// An entry whose records are missing in part.
	body("15 gid=2097152\n8 uid=0\n", plain)
}

func TestPaxWrongLinks(t *testing.T) {
	global, nuls := globalOf(), strings.Repeat("\x00", 1024)
	target := recordOf(file("f", "x")) + recordOf(file("y", "x"))
	deep, long := deepPath("f"), strings.Repeat("l", 101)
	path, link := textOf(pathRecord(deep)), textOf(linkRecord("f"))
	far := paxRecordOf(file(widePath("f"), ""))
	first := []impl.Entry{file("f", "x"), file("y", "x")}
	checkPax(t, "a hard link to the Base of its Path", global+target+specialOf("x", "pax_x", path+link)+recordOf(hard("f", "x"))+nuls, append(first, hard(deep, "f")))
	checkPax(t, "a long symbolic link", global+specialOf("x", "pax_x", textOf(linkRecord(long)))+recordOf(sym("s", long[:100]))+nuls, []impl.Entry{sym("s", long)})
	for name, member := range map[string]string{
		"another stand-in":               specialOf("x", "pax_x", path+link) + recordOf(hard("f", "y")),
		"the Link as it is":              specialOf("x", "pax_x", path+link) + recordOf(hard("f/f", "f")),
		"the records in the other order": specialOf("x", "pax_x", link+path) + recordOf(hard("f", "x")),
		"a record that is not needed":    specialOf("x", "pax_x", link) + recordOf(hard("g", "f")),
		"a record for another Link":      specialOf("x", "pax_x", textOf(linkRecord("y"))) + recordOf(hard("g", "f")),
		"a Link that is no path":         specialOf("x", "pax_x", path+textOf(linkRecord("/f"))) + recordOf(hard("f", "x")),
		"a Link to its own Path":         specialOf("x", "pax_x", path+textOf(linkRecord(deep))) + recordOf(hard("f", "x")),
		"no record of the Link":          specialOf("x", "pax_x", path) + recordOf(hard("f", "x")),
		"a symbolic link cut elsewhere":  specialOf("x", "pax_x", textOf(linkRecord(long))) + recordOf(sym("s", long[:99])),
		"a symbolic link, another one":   specialOf("x", "pax_x", textOf(linkRecord(long))) + recordOf(sym("s", "x")),
		"a symbolic link that is short":  specialOf("x", "pax_x", textOf(linkRecord(long[:100]))) + recordOf(sym("s", long[:100])),
		"a symbolic link of 151 bytes":   specialOf("x", "pax_x", textOf(linkRecord(long+long[:50]))) + recordOf(sym("s", long[:100])),
		"a Link for a file":              specialOf("x", "pax_x", link) + recordOf(file("g", "x")),
		"a Link for a directory":         specialOf("x", "pax_x", link) + recordOf(dir("g")),
		"the whole Link of a far file":   far + specialOf("x", "pax_x", textOf(linkRecord(widePath("f")))) + recordOf(hard("g", "x")),
	} {
		checkBadPax(t, name, global, target, member)
	}
}

func TestPaxUnknownFlags(t *testing.T) {
	global, plain := globalOf(), recordOf(file("a", "x"))
	for c := range 256 {
		flag := string([]byte{byte(c)})
		if strings.Contains("0521", flag) {
			continue
		}
		member := specialOf(flag, "unknown", "body")
		for _, members := range [][]string{{global, member}, {global, member, plain}, {global, plain, member}, {member, global, plain}} {
			checkBadPax(t, "the flag "+flag, members...)
		}
		// Its body is skipped, but it must be there.
		checkNoPax(t, "the flag "+flag+" without its body", global+plain+member[:512], impl.RdCut)
		checkNoPax(t, "the flag "+flag+" with a byte in the padding", global+with(member, 600, "x")+plain, impl.RdBad)
		checkNoPax(t, "the flag "+flag+" at the end", global+plain+member, impl.RdEnd)
	}
	checkNoPax(t, "a GNU header", global+specialOf("L", "long", "name\x00")+plain+strings.Repeat("\x00", 1024), impl.RdBad)
}

// greatInvalidLists returns invalid lists for which an ustar header does not do, besides the others.
func greatInvalidLists() map[string][]impl.Entry {
	lists := invalidLists()
	lists["a long Path twice"] = []impl.Entry{file(deepPath("a"), "1"), dir(deepPath("a"))}
	lists["a long hard link to nothing"] = []impl.Entry{file("a", ""), hard(deepPath("a"), "b")}
	lists["a long hard link to itself"] = []impl.Entry{file("f", ""), hard(deepPath("f"), deepPath("f"))}
	lists["31 entries of every kind"] = append(greatList(), dir("z"))
	return lists
}

func TestPaxOfAnInvalidList(t *testing.T) {
	for name, list := range greatInvalidLists() {
		checkBadPax(t, name, strings.TrimSuffix(paxOf(list), strings.Repeat("\x00", 1024)))
	}
	checkPax(t, "30 entries", paxOf(files(30)), files(30))
	checkPax(t, "30 entries with records", paxOf(greatList()), greatList())
	for _, list := range [][]impl.Entry{{file("a", "x")}, fullList(), files(30)} {
		checkNoPax(t, "an ustar archive", archiveOf(list), impl.RdBad)
	}
}

// Whichever byte is another one, with the checksum right for it or not: what is accepted is the archive of its list.
func TestAcceptedPaxIsWritten(t *testing.T) {
	great := hard(deepPath("a"), "a")
	great.Gid = 2097152
	s := paxOf([]impl.Entry{file("a", "hello"), great})
	places := placesIn(s)
	codes := map[int]int{}
	for at := range s {
		start := at / 512 * 512
		for _, c := range "\x00 /01a\n" {
			changed := with(s, at, string(c))
			codes[judgePax(t, changed)]++
			if slices.Contains(places, start) && start < len(s)-1024 {
				codes[judgePax(t, changed[:start]+sealed(changed[start:]))]++
			}
		}
	}
	for code := range 6 {
		if code != impl.RdCut && codes[code] < 100 {
			t.Errorf("the code %d occurs only %d times", code, codes[code])
		}
	}
}

// Archives of members in any order: only those that PutPax writes are accepted.
func TestPaxOfAnyMembers(t *testing.T) {
	great := file("a", "hello")
	great.Uid = 2097152
	parts := []string{
		globalOf(), recordOf(file("a", "hello")), paxRecordOf(great), recordsOf(impl.Record{Key: "uid", Value: "2097152"}), recordOf(hard("h", "a")), paxRecordOf(hard(deepPath("a"), "a")),
		specialOf("?", "a", "x"), recordOf(file("a", "hello"))[:512], strings.Repeat("\x00", 512), strings.Repeat("\x00", 1024), paxOf(nil), "x",
	}
	accepted := 0
	for s := range mixes(parts, globalOf()) {
		if judgePax(t, s) == impl.RdOk {
			accepted++
		}
	}
	if accepted < 10 {
		t.Errorf("only %d archives are accepted", accepted)
	}
}

// The conventions: a result shares no memory with an argument, nor do two parts of it.
func TestPaxResultsAreNewMemory(t *testing.T) {
	list := []impl.Entry{
		{Kind: impl.KFile, Path: strings.Clone(deepPath("f")), User: strings.Repeat("u", 20), Group: strings.Repeat("g", 20), Body: strings.Repeat("b", 1000)},
		{Kind: impl.KFile, Path: strings.Clone(widePath("f")), Body: strings.Repeat("b", 512)},
		{Kind: impl.KHard, Path: strings.Clone(longPath(90)), Link: strings.Clone(deepPath("f"))},
		{Kind: impl.KSym, Path: strings.Clone(longPath(80)), Link: strings.Repeat("l", 150)},
	}
	s, ok := impl.PutPax(list)
	if !ok {
		t.Fatal("PutPax fails")
	}
	checkApart(t, "PutPax", []string{s}, textsOf(list))
	first, _ := impl.GetPax(s)
	second, _ := impl.GetPax(s)
	checkApart(t, "GetPax", append(textsOf(first), textsOf(second)...), []string{s})
	first[0] = impl.Entry{Path: "changed"}
	if !impl.SameList(second, list) {
		t.Error("a result is kept")
	}
	r := impl.Record{Key: strings.Repeat("k", 30), Value: strings.Repeat("v", 250)}
	text := impl.PutRecord(r)
	checkApart(t, "PutRecord", []string{text}, []string{r.Key, r.Value})
	got, _ := impl.GetRecord(text, 0)
	checkApart(t, "GetRecord", []string{got.Key, got.Value}, []string{text})
	all := impl.PutRecords([]impl.Record{r})
	checkApart(t, "PutRecords", []string{all}, []string{r.Key, r.Value})
	both, _ := impl.GetRecords(text + text)
	checkApart(t, "GetRecords", []string{both[0].Key, both[0].Value, both[1].Key, both[1].Value}, []string{text})
	again, _ := impl.GetRecords(text + text)
	both[0] = impl.Record{}
	if again[0] != r {
		t.Error("a result is kept")
	}
}

// The conventions: no argument is changed, not even what lies behind the end of a list.
func TestPaxChangesNothing(t *testing.T) {
	whole := append(greatList(), files(20)...)
	before := slices.Clone(whole)
	for length := range len(whole) + 1 {
		impl.PutPax(whole[:length])
		if !impl.SameList(whole, before) {
			t.Fatalf("with %d entries the argument is now %v", length, whole)
		}
	}
}

// The conventions: every function of the chapter answers whatever it is given.
func TestPaxAnswersAnything(t *testing.T) {
	random := rand.New(rand.NewSource(5))
	header := globalOf()
	for range 2000 {
		text := make([]byte, random.Intn(2500))
		random.Read(text)
		s := string(text)
		judgePax(t, s)
		judgePax(t, header+s)
		judgePax(t, specialOf("x", "pax_x", s)+paxOf(nil))
		if len(s) >= 512 {
			judgePax(t, sealed(s))
		}
		impl.GetRecord(s, random.Intn(5000)-1000)
		impl.GetRecords(s)
		impl.RecordOk(impl.Record{Key: s, Value: s})
		impl.PutRecords([]impl.Record{{Key: s, Value: s}})
		impl.Base1(impl.Entry{Kind: random.Intn(6) - 1, Path: s, Link: s, Body: s})
		impl.Records(s)
	}
	// Many members are gone through, though there are too many.
	many := globalOf() + strings.Repeat(specialOf("?", "a", "x"), 3000) + strings.Repeat(recordOf(file("a", "x")), 3000)
	checkNoPax(t, "6000 members", many+strings.Repeat("\x00", 1024), impl.RdBad)
	checkNoPax(t, "6000 members without an end", many, impl.RdEnd)
	huge := strings.Repeat("x/", 1<<15)
	if impl.PutRecord(impl.Record{Key: huge, Value: huge}) != "" || impl.PutRecord(impl.Record{Key: "k", Value: huge}) != "" {
		t.Error("a huge record is written")
	}
	checkNoRecord(t, "in a huge text", huge, 3)
	checkNoRecord(t, "in a huge line", "65540 k="+huge+"\n", 0)
	checkNoRecords(t, "in a huge text", huge)
	checkNoRecords(t, "of many lines", strings.Repeat("6 k=v\n", 1<<15))
	judgePax(t, huge)
	judgePax(t, strings.Repeat("\x00", 1<<20))
}
