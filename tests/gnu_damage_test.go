package tests

import (
	"math/rand"
	"slices"
	"strconv"
	"strings"
	"testing"

	"loop.example/g00413/impl"
)

// Promise 6, an archive that GetGnu accepts is PutGnu of what it returned: GetGnu of what PutGnu did not write, and the conventions.

// gnuScanned returns the code of the headers, flags, bodies, paddings and the end of an archive, in other words than the program does.
func gnuScanned(s string) int {
	nuls := strings.Repeat("\x00", 1024)
	for rest := s; rest != nuls; {
		if rest == "" || strings.HasPrefix(rest, nuls[:512]) {
			return impl.RdEnd
		}
		_, flag, size, code := impl.GetLong(rest)
		if code != impl.RdOk {
			return code
		}
		next := 512 + (size+511)/512*512
		if len(rest) < next {
			return impl.RdCut
		}
		if strings.Trim(rest[512+size:next], "\x00") != "" || !strings.Contains("0125LK", flag) {
			return impl.RdBad
		}
		rest = rest[next:]
	}
	return impl.RdOk
}

// judgeGnu fails if GetGnu accepts what is not the archive of a list, or refuses something with another code than the one stated first. It returns the code.
func judgeGnu(t *testing.T, s string) int {
	t.Helper()
	list, code := impl.GetGnu(s)
	want := gnuScanned(s)
	switch again, ok := impl.PutGnu(list); {
	case code == impl.RdOk && (want != impl.RdOk || !ok || again != s):
		t.Fatalf("%q is accepted as %+v", s, list)
	case code != impl.RdOk && len(list) != 0:
		t.Fatalf("%q has the code %d, but is read as %+v", s, code, list)
	case code != want && (want != impl.RdOk || code != impl.RdBad):
		t.Fatalf("%q has the code %d, want %d", s, code, want)
	}
	return code
}

// gnuList returns a list with great numbers, with long names of either sort and of both, and with bodies that have padding.
func gnuList() []impl.Entry {
	great := file("a", "hello")
	great.Uid, great.Time = 2097152, 8589934592
	return []impl.Entry{great, dir("d"), hard(deepPath("a"), "a"), file(widePath("e"), strings.Repeat("y", 513)), sym("s", strings.Repeat("l", 101)), hard(deepPath("h"), widePath("e"))}
}

func TestGnuCutAtEveryLength(t *testing.T) {
	for _, list := range [][]impl.Entry{nil, gnuList()} {
		s := gnuOf(list)
		places := placesIn(s)
		end := places[len(places)-1]
		if end != len(s)-1024 {
			t.Fatalf("the end is at %d", end)
		}
		for length := range len(s) {
			want := impl.RdCut
			if slices.Contains(places, length) || length >= end+512 {
				want = impl.RdEnd
			}
			checkNoGnu(t, "the first "+impl.DecText(length)+" bytes", s[:length], want)
			judgeGnu(t, s[:length])
		}
		checkGnu(t, "the whole archive", s, list)
	}
}

func TestGnuEnd(t *testing.T) {
	end := strings.Repeat("\x00", 1024)
	for _, list := range [][]impl.Entry{nil, {dir("d")}, gnuList()} {
		members := strings.TrimSuffix(gnuOf(list), end)
		for _, wrong := range wrongEnds(gnuRecordOf(dir("z")), gnuOf(nil)) {
			checkNoGnu(t, "an archive that ends with "+wrong.name, members+wrong.text, wrong.want)
			// It counts ahead of what is wrong with the entries.
			checkNoGnu(t, "a wrong one that ends with "+wrong.name, longNameOf("L", "text")+members+wrong.text, wrong.want)
		}
		checkGnu(t, "an archive with its end", members+end, list)
	}
}

// Each member has its padding, the long names too.
func TestGnuPadding(t *testing.T) {
	s := gnuOf(gnuList())
	places := placesIn(s)
	padded := 0
	for _, at := range places[:len(places)-1] {
		size, _ := strconv.ParseInt(s[at+124:at+135], 8, 64)
		for i := at + 512 + int(size); i%512 != 0; i++ {
			checkNoGnu(t, "an archive with a byte in a padding", with(s, i, "\x01"), impl.RdBad)
			// It counts ahead of what comes later, and an incomplete padding counts ahead of it.
			checkNoGnu(t, "one without an end", with(s, i, "\x01")[:len(s)-1024], impl.RdBad)
			checkNoGnu(t, "one with a cut padding", with(s, i, "\x01")[:(i+512)/512*512-1], impl.RdCut)
			padded++
		}
	}
	if padded < 2000 {
		t.Errorf("there are only %d bytes of padding", padded)
	}
}

// Each code of a header ends the reading, wherever the header is.
func TestBadHeaderInGnu(t *testing.T) {
	s := gnuOf(gnuList())
	for _, at := range placesIn(s) {
		for _, plain := range []string{gnuRecordOf(file("z", "body")), longNameOf("L", deepPath("f")+"\x00"), longNameOf("K", "text"), longNameOf("?", "body")} {
			for _, c := range []struct {
				name, member string
				want         int
			}{
				{"a wrong byte", with(plain, 1, "~"), impl.RdSum},
				{"a wrong checksum", with(plain, 148, "000000"), impl.RdSum},
				{"a wrong checksum and a wrong number", with(plain, 100, "x"), impl.RdSum},
				{"a malformed number", rewritten(plain, 100, "x"), impl.RdField},
				{"a malformed number and a wrong magic", rewritten(with(plain, 100, "x"), 257, "x"), impl.RdField},
				{"a small number in binary", rewritten(plain, 108, inBinary(2097151, 8)), impl.RdField},
				{"a small time in binary", rewritten(plain, 136, inBinary(8589934591, 12)), impl.RdField},
				{"a size over MaxBody", rewritten(plain, 124, "00000005671"), impl.RdField},
				{"a wrong magic", rewritten(plain, 257, "x"), impl.RdBad},
				{"the magic of ustar", rewritten(plain, 257, "ustar\x0000"), impl.RdBad},
				{"a prefix", rewritten(plain, 345, "p"), impl.RdBad},
			} {
				checkNoGnu(t, c.name, s[:at]+c.member+s[at:], c.want)
				checkNoGnu(t, c.name+" and no body", s[:at]+c.member[:512], c.want)
				checkNoGnu(t, c.name+" and a byte in the padding", s[:at]+with(c.member, 1023, "x"), c.want)
			}
			// With a right header the body counts, whatever the flag.
			checkNoGnu(t, "a right header without its body", s[:at]+plain[:512], impl.RdCut)
			checkNoGnu(t, "a right header with half a body", s[:at]+plain[:1023], impl.RdCut)
			checkNoGnu(t, "a right header with a byte in the padding", s[:at]+with(plain, 1023, "x"), impl.RdBad)
		}
	}
}

// checkBadGnu fails unless members that are complete, but not as PutGnu writes them, give RdBad, and only after all else.
func checkBadGnu(t *testing.T, name string, members ...string) {
	t.Helper()
	nuls := strings.Repeat("\x00", 1024)
	plain := gnuRecordOf(file("z", "body"))
	s := strings.Join(members, "")
	checkNoGnu(t, name, s+nuls, impl.RdBad)
	checkNoGnu(t, name+", without an end", s, impl.RdEnd)
	checkNoGnu(t, name+", with a wrong end", s+nuls+"x", impl.RdEnd)
	checkNoGnu(t, name+", with a broken header", s+with(plain, 1, "~")+nuls, impl.RdSum)
	checkNoGnu(t, name+", with a malformed header", s+rewritten(plain, 100, "x")+nuls, impl.RdField)
	checkNoGnu(t, name+", with half a member", s+plain[:700], impl.RdCut)
}

// headerOf returns the members of an entry without its long names.
func headerOf(e impl.Entry) string {
	return memberOf(e, impl.Flag(e.Kind), e.Body)
}

func TestGnuNamesInWrongPlaces(t *testing.T) {
	deep, other := deepPath("f"), deepPath("g")
	path, link := longNameOf("L", deep+"\x00"), longNameOf("K", strings.Repeat("l", 101)+"\x00")
	plain, long := gnuRecordOf(file("a", "x")), headerOf(file(deep, "x"))
	sign := headerOf(sym(deep, strings.Repeat("l", 101)))
	end := strings.Repeat("\x00", 1024)
	checkGnu(t, "names in their places", plain+path+link+sign+end, []impl.Entry{file("a", "x"), sym(deep, strings.Repeat("l", 101))})
	checkBadGnu(t, "K ahead of L", link, path, sign)
	checkBadGnu(t, "a Path with no entry behind it", path)
	checkBadGnu(t, "a Link with no entry behind it", link)
	checkBadGnu(t, "both with no entry behind them", path, link)
	checkBadGnu(t, "a Path with no entry behind it at the end", plain, path)
	checkBadGnu(t, "a Link with no entry behind it at the end", path, long, link)
	checkBadGnu(t, "two Paths in a row", path, path, long)
	checkBadGnu(t, "two Paths in a row, the first one wrong", longNameOf("L", other+"\x00"), path, long)
	checkBadGnu(t, "two Paths in a row, the last one wrong", path, longNameOf("L", other+"\x00"), long)
	checkBadGnu(t, "an empty Path behind the Path", path, longNameOf("L", "\x00"), long)
	checkBadGnu(t, "two Links in a row", link, link, headerOf(sym("s", strings.Repeat("l", 101))))
	checkBadGnu(t, "a Path, a Link and a Path", path, link, path, sign)
	checkBadGnu(t, "a Link, a Path and a Link", link, path, link, sign)
	checkGnu(t, "cut names without the long ones", long+headerOf(hard("h", deep))+end, []impl.Entry{file(deep[:100], "x"), hard("h", deep[:100])})
	checkBadGnu(t, "no Path", long, longNameOf("K", deep+"\x00"), headerOf(hard("h", deep)))
	checkBadGnu(t, "no Link", path, long, headerOf(hard("h", deep)))
	checkBadGnu(t, "names behind their entry", sign, path, link)
	checkBadGnu(t, "a Path ahead of another entry", path, plain, long)
	checkBadGnu(t, "a Link of a file", link, plain)
	checkBadGnu(t, "a Link of a directory", longNameOf("K", strings.Repeat("l", 101)+"\x00"), gnuRecordOf(dir("d")))
	for at, text := range map[int]string{0: "././@LongLinks", 2: "x", 12: "\x00", 100: "0000644", 108: "0000001", 116: inBinary(2097152, 8), 136: "00000000001", 157: "a", 265: "root", 297: "root"} {
		checkBadGnu(t, "a name with another field", rewritten(path, at, text), long)
		checkBadGnu(t, "a Link with another field", path, rewritten(link, at, text), sign)
	}
}

// A name that is not needed, or that is not the one of the header.
func TestGnuWrongNames(t *testing.T) {
	deep, far := deepPath("f"), strings.Repeat("l", 101)
	for _, length := range []int{1, 2, 99, 100} {
		name := longPath(length)
		checkGnu(t, "a short Path", gnuRecordOf(file(name, "x"))+strings.Repeat("\x00", 1024), []impl.Entry{file(name, "x")})
		checkBadGnu(t, "a long name for a short Path", longNameOf("L", name+"\x00"), gnuRecordOf(file(name, "x")))
		checkBadGnu(t, "a long name for a short Link", longNameOf("K", name+"\x00"), gnuRecordOf(sym("s", name)))
		checkBadGnu(t, "a long name for another Path", longNameOf("L", name+"\x00"), headerOf(file(deep, "x")))
	}
	for _, body := range []string{
		"", "\x00", "f", "f\x00", "\x00f\x00", deep, deep + "\x00\x00", deep + " \x00", deep + "\n", "\x00" + deep, deep[:199] + "\x00", deep[:150] + "\x00" + deep[151:] + "\x00", deep[:100] + "\x00", deep[:101], "/" + deep + "\x00",
		"./" + deep + "\x00", deep + "/\x00", deepPath("f") + "f\x00", strings.Repeat("x", 101) + "\x00", strings.Repeat("\x00", 201), strings.Repeat("/", 300), strings.Repeat("x", 3000), longPath(250) + "\x00", deep[:100] + "/../x\x00",
	} {
		checkBadGnu(t, "another text for a Path", longNameOf("L", body), headerOf(file(deep, "x")))
	}
	for _, body := range []string{
		"", "\x00", "l", "l\x00", far, far + "\x00\x00", far + " \x00", far + "\n", far[:100], far[:100] + "\x00", far[:50] + "\x00" + far[:50] + "\x00", strings.Repeat("l", 151) + "\x00", strings.Repeat("l", 200) + "\x00", strings.Repeat("\x00", 102), strings.Repeat("m", 101) + "\x00", strings.Repeat("l", 3000),
	} {
		checkBadGnu(t, "another text for a Link", longNameOf("K", body), headerOf(sym("s", far)))
	}
	// What the header has must be the beginning of the name.
	for _, e := range []impl.Entry{file("f", "x"), file(deep[:99], "x"), file(deep[:98]+"x", "x"), file(deep[1:], "x"), file("././@LongLink", "x")} {
		checkBadGnu(t, "another Path in the header", longNameOf("L", deep+"\x00"), headerOf(e))
	}
	for _, link := range []string{"l", far[:99], far[:99] + "m", "././@LongLink"} {
		checkBadGnu(t, "another Link in the header", longNameOf("K", far+"\x00"), headerOf(sym("s", link)))
	}
	target := gnuRecordOf(file("f", "x"))
	checkBadGnu(t, "a hard link to no file", target, longNameOf("K", deep+"\x00"), headerOf(hard("h", deep)))
	checkBadGnu(t, "a hard link to itself", target, longNameOf("L", deep+"\x00"), longNameOf("K", deep+"\x00"), headerOf(hard(deep, deep)))
}

// An unknown flag counts as soon as its body and padding have been read.
func TestGnuUnknownFlags(t *testing.T) {
	plain, nuls := gnuRecordOf(file("a", "x")), strings.Repeat("\x00", 1024)
	path := longNameOf("L", deepPath("f")+"\x00")
	for c := range 256 {
		flag := string([]byte{byte(c)})
		if strings.Contains("0125LK", flag) {
			continue
		}
		member := memberOf(file("unknown", ""), flag, "body")
		for _, ahead := range []string{"", plain, path, plain + path} {
			for _, behind := range []string{"", nuls, plain + nuls, plain, nuls + "x", nuls[:512], "x", with(plain, 1, "~") + nuls, rewritten(plain, 100, "x"), plain[:700]} {
				checkNoGnu(t, "the flag "+flag, ahead+member+behind, impl.RdBad)
			}
			for _, length := range []int{512, 513, 516, 700, 1023} {
				checkNoGnu(t, "the flag "+flag+" with a cut body", ahead+member[:length], impl.RdCut)
			}
			checkNoGnu(t, "the flag "+flag+" with a cut header", ahead+member[:511], impl.RdCut)
			checkNoGnu(t, "the flag "+flag+" with a byte in the padding", ahead+with(member, 600, "x"), impl.RdBad)
			checkNoGnu(t, "the flag "+flag+" with a wrong checksum", ahead+with(member, 1, "~"), impl.RdSum)
			checkNoGnu(t, "the flag "+flag+" with a malformed number", ahead+rewritten(member, 100, "x"), impl.RdField)
		}
		checkNoGnu(t, "the flag "+flag+" without a body", memberOf(file("unknown", ""), flag, ""), impl.RdBad)
	}
}

func TestGnuOfAnInvalidList(t *testing.T) {
	lists := greatInvalidLists()
	// GetLong accepts these, so that only the list tells.
	for name, e := range map[string]impl.Entry{
		"a hard link without a Link": hard("h", ""),
		"a file with a Link":         {Path: "a", Link: "b"},
		"a Uid beyond MaxId":         {Path: "a", Uid: 4294967296},
		"a Gid beyond MaxId":         {Path: "a", Gid: impl.MaxNum},
		"a Time beyond MaxTime":      {Path: "a", Time: 100000000000},
		"a Mode beyond MaxMode":      {Path: "a", Mode: 4096},
		"a name that is no path":     dir("././@LongLink"),
		"no name":                    dir(""),
		"a User in upper case":       {Path: "a", User: "Ann"},
	} {
		lists[name] = []impl.Entry{file("b", ""), e}
	}
	for name, list := range lists {
		checkBadGnu(t, name, strings.TrimSuffix(gnuOf(list), strings.Repeat("\x00", 1024)))
	}
	checkGnu(t, "30 entries", gnuOf(files(30)), files(30))
	checkGnu(t, "30 entries with long names", gnuOf(greatList()), greatList())
	for _, list := range [][]impl.Entry{{file("a", "x")}, fullList(), files(30)} {
		checkNoGnu(t, "an ustar archive", archiveOf(list), impl.RdBad)
		checkNoGnu(t, "a pax archive", paxOf(list), impl.RdBad)
	}
}

// Whichever byte is another one, with the checksum right for it or not: what is accepted is the archive of its list.
func TestAcceptedGnuIsWritten(t *testing.T) {
	great := hard(deepPath("a"), "a")
	great.Gid = 2097152
	s := gnuOf([]impl.Entry{file("a", "hello"), great, sym("s", strings.Repeat("l", 101))})
	places := placesIn(s)
	codes := map[int]int{}
	for at := range s {
		start := at / 512 * 512
		for _, c := range "\x00 /01La\n" {
			changed := with(s, at, string(c))
			codes[judgeGnu(t, changed)]++
			if slices.Contains(places, start) && start < len(s)-1024 {
				codes[judgeGnu(t, changed[:start]+sealed(changed[start:]))]++
			}
		}
	}
	for code := range 6 {
		if code != impl.RdCut && codes[code] < 100 {
			t.Errorf("the code %d occurs only %d times", code, codes[code])
		}
	}
}

// Archives of members in any order: only those that PutGnu writes are accepted.
func TestGnuOfAnyMembers(t *testing.T) {
	deep, far := deepPath("a"), strings.Repeat("l", 101)
	parts := []string{
		gnuRecordOf(file("a", "hello")), longNameOf("L", deep+"\x00"), longNameOf("K", far+"\x00"), longNameOf("K", deep+"\x00"), headerOf(file(deep, "x")), headerOf(sym(deep, far)), headerOf(sym("s", far)), headerOf(hard("h", deep)),
		longNameOf("?", "x"), longNameOf("L", deep), gnuRecordOf(file("a", "hello"))[:512], strings.Repeat("\x00", 512), strings.Repeat("\x00", 1024), "x",
	}
	accepted := 0
	for s := range mixes(parts, "") {
		if judgeGnu(t, s) == impl.RdOk {
			accepted++
		}
	}
	if accepted < 30 {
		t.Errorf("only %d archives are accepted", accepted)
	}
}

// The conventions: a result shares no memory with an argument, nor do two parts of it.
func TestGnuResultsAreNewMemory(t *testing.T) {
	list := []impl.Entry{
		{Kind: impl.KFile, Path: strings.Clone(deepPath("f")), Uid: 2097152, User: strings.Repeat("u", 20), Group: strings.Repeat("g", 20), Body: strings.Repeat("b", 1000)},
		{Kind: impl.KFile, Path: strings.Clone(longPath(100)), Body: strings.Repeat("b", 512)},
		{Kind: impl.KHard, Path: strings.Clone(longPath(90)), Link: strings.Clone(deepPath("f"))},
		{Kind: impl.KSym, Path: strings.Clone(widePath("s")), Link: strings.Repeat("l", 150)},
	}
	s, ok := impl.PutGnu(list)
	if !ok {
		t.Fatal("PutGnu fails")
	}
	checkApart(t, "PutGnu", []string{s}, textsOf(list))
	first, _ := impl.GetGnu(s)
	second, _ := impl.GetGnu(s)
	checkApart(t, "GetGnu", append(textsOf(first), textsOf(second)...), []string{s})
	first[0] = impl.Entry{Path: "changed"}
	if !impl.SameList(second, list) {
		t.Error("a result is kept")
	}
	for at := 0; at < len(s); at += 512 {
		e, flag, _, code := impl.GetLong(s[at:])
		if code == impl.RdOk {
			checkApart(t, "GetLong", append(textsOf([]impl.Entry{e}), flag), []string{s})
		}
	}
	for _, e := range list {
		checkApart(t, "PutLong", []string{impl.PutLong(e, "0", 0)}, textsOf(list))
		checkApart(t, "LongName", []string{impl.LongName("L", e.Path)}, textsOf(list))
	}
}

// The conventions: no argument is changed, not even what lies behind the end of a list.
func TestGnuChangesNothing(t *testing.T) {
	whole := append(greatList(), files(20)...)
	before := slices.Clone(whole)
	for length := range len(whole) + 1 {
		impl.PutGnu(whole[:length])
		if !impl.SameList(whole, before) {
			t.Fatalf("with %d entries the argument is now %v", length, whole)
		}
	}
}

// The conventions: every function of the chapter answers whatever it is given.
func TestGnuAnswersAnything(t *testing.T) {
	random := rand.New(rand.NewSource(6))
	header := longHeadOf(file("a", ""), "0", 0)
	for range 2000 {
		text := make([]byte, random.Intn(2500))
		random.Read(text)
		s := string(text)
		judgeGnu(t, s)
		judgeGnu(t, header+s)
		judgeGnu(t, longNameOf("L", s)+gnuOf(gnuList()))
		if len(s) >= 512 {
			judgeGnu(t, sealed(s))
			judgeGnu(t, sealed(with(s, 100, header[100:])))
		}
		impl.GetLong(s)
		impl.LongName("L", s)
		impl.LongName(s, s)
		impl.PutLong(impl.Entry{Kind: random.Intn(6) - 1, Path: s, Link: s, Body: s}, s, len(s))
	}
	// Many members are gone through, though there are too many.
	many := strings.Repeat(longNameOf("L", "x"), 3000) + strings.Repeat(gnuRecordOf(file("a", "x")), 3000)
	checkNoGnu(t, "6000 members", many+strings.Repeat("\x00", 1024), impl.RdBad)
	checkNoGnu(t, "6000 members without an end", many, impl.RdEnd)
	huge := strings.Repeat("x/", 1<<15)
	for _, e := range []impl.Entry{{}, {Path: huge}, {Path: "a", Link: huge}, {Path: "a", User: huge, Group: huge, Body: huge}} {
		if impl.PutLong(e, "0", 0) != "" || impl.PutLong(e, huge, 0) != "" {
			t.Errorf("%.100v is accepted", e)
		}
		if s, ok := impl.PutGnu([]impl.Entry{e}); s != "" || ok {
			t.Errorf("%.100v is accepted", e)
		}
	}
	if impl.LongName("L", huge) != "" || impl.LongName(huge, "a") != "" {
		t.Error("a huge name is written")
	}
	judgeGnu(t, huge)
	judgeGnu(t, strings.Repeat("\x00", 1<<20))
}
