package tests

import (
	"iter"
	"math/rand"
	"slices"
	"strings"
	"testing"

	"loop.example/g00413/impl"
)

// Promise 4, every accepted archive is the archive of its list: GetUstar of what PutUstar did not write, and the conventions.

// checkRead fails unless GetUstar reads these entries and ends with the code.
func checkRead(t *testing.T, name string, s string, list []impl.Entry, want int) {
	t.Helper()
	if got, code := impl.GetUstar(s); code != want || !impl.SameList(got, list) {
		t.Errorf("GetUstar of %s reads %d entries, want %d, and returns %d, want %d", name, len(got), len(list), code, want)
	}
}

// shortList returns a list with a body that has padding, one that has none, and an entry without a body.
func shortList() []impl.Entry {
	return []impl.Entry{file("a", "hello"), file("b", strings.Repeat("x", 512)), dir("d"), file("e", strings.Repeat("y", 513)), hard("h", "b")}
}

func TestCutAtEveryLength(t *testing.T) {
	list := shortList()
	s := archiveOf(list)
	read, at := 0, 0 // the entries that are complete, and where the next one starts
	for length := range len(s) {
		if read < len(list) && length == at+len(recordOf(list[read])) {
			at = length
			read++
		}
		want := impl.RdCut
		if length == at || read == len(list) && length-at >= 512 {
			want = impl.RdEnd
		}
		checkRead(t, "the first "+impl.DecText(length)+" bytes", s[:length], list[:read], want)
	}
	checkRead(t, "the whole archive", s, list, impl.RdOk)
}

// wrongEnd is what stands in place of the end of an archive, and the code that it gives.
type wrongEnd struct {
	name, text string
	want       int
}

// wrongEnds returns wrong ends, some of them with a record or a whole archive of the format.
func wrongEnds(record string, archive string) []wrongEnd {
	nuls := strings.Repeat("\x00", 4096)
	return []wrongEnd{
		{"nothing", "", impl.RdEnd},
		{"one NUL", nuls[:1], impl.RdCut},
		{"511 NULs", nuls[:511], impl.RdCut},
		{"one block", nuls[:512], impl.RdEnd},
		{"a block and a NUL", nuls[:513], impl.RdEnd},
		{"1023 NULs", nuls[:1023], impl.RdEnd},
		{"1025 NULs", nuls[:1025], impl.RdEnd},
		{"three blocks", nuls[:1536], impl.RdEnd},
		{"eight blocks", nuls, impl.RdEnd},
		{"two blocks and a byte", nuls[:1024] + "x", impl.RdEnd},
		{"two blocks and an entry", nuls[:1024] + record, impl.RdEnd},
		{"one block and an entry", nuls[:512] + record, impl.RdEnd},
		{"one block and a whole archive", nuls[:512] + archive, impl.RdEnd},
		{"a byte in the second block", nuls[:512] + "x" + nuls[:511], impl.RdEnd},
		{"a last byte", nuls[:1023] + "\x01", impl.RdEnd},
		{"a first byte", "x" + nuls[:1023], impl.RdSum},
		{"a byte in the first block", nuls[:511] + "x" + nuls[:512], impl.RdSum},
	}
}

func TestEndOfAnArchive(t *testing.T) {
	end := strings.Repeat("\x00", 1024)
	for _, list := range [][]impl.Entry{nil, {dir("d")}, shortList()} {
		records := strings.TrimSuffix(archiveOf(list), end)
		for _, wrong := range wrongEnds(recordOf(dir("z")), archiveOf(nil)) {
			checkRead(t, "an archive that ends with "+wrong.name, records+wrong.text, list, wrong.want)
		}
		checkRead(t, "an archive with its end", records+end, list, impl.RdOk)
	}
}

func TestPadding(t *testing.T) {
	for _, size := range []int{1, 5, 511, 513, 3000} {
		list := []impl.Entry{dir("d"), file("a", strings.Repeat("x", size)), dir("e")}
		s := archiveOf(list)
		end := 1024 + size
		for at := end; at%512 != 0; at++ {
			checkRead(t, "an archive with a byte in the padding", with(s, at, "\x01"), list[:1], impl.RdBad)
			// That the padding is not complete counts first.
			checkRead(t, "one that is cut as well", with(s, at, "\x01")[:(end+511)/512*512-1], list[:1], impl.RdCut)
		}
		changed := []impl.Entry{list[0], file("a", strings.Repeat("x", size-1)+"\x01"), list[2]}
		checkRead(t, "an archive with another byte in the body", with(s, end-1, "\x01"), changed, impl.RdOk)
	}
}

// Each code of a header ends the reading, with the entries before it.
func TestBadHeaderInAnArchive(t *testing.T) {
	list := shortList()
	plain := recordOf(file("z", "body"))
	for _, c := range []struct {
		name, record string
		want         int
	}{
		{"a wrong byte", with(plain, 1, "x"), impl.RdSum},
		{"a wrong checksum", with(plain, 148, "000000"), impl.RdSum},
		{"a wrong checksum and a wrong number", with(plain, 100, "x"), impl.RdSum},
		{"a malformed number", rewritten(plain, 100, "x"), impl.RdField},
		{"a size over MaxBody", rewritten(plain, 124, "00000005671"), impl.RdField},
		{"a wrong magic", rewritten(plain, 257, "x"), impl.RdBad},
		{"a name that is no path", rewritten(plain, 0, "/"), impl.RdBad},
		{"a flag of no kind", rewritten(plain, 156, "x"), impl.RdBad},
		{"the flag of a pax header", rewritten(plain, 156, "g"), impl.RdBad},
		{"no flag", rewritten(plain, 156, "\x00"), impl.RdBad},
		{"the flag of a symbolic link without a Link", rewritten(plain, 156, "2"), impl.RdBad},
	} {
		for read := range len(list) + 1 {
			before := strings.TrimSuffix(archiveOf(list[:read]), strings.Repeat("\x00", 1024))
			checkRead(t, c.name, before+c.record+archiveOf(list[read:]), list[:read], c.want)
			// The body is looked at only when the header is right.
			checkRead(t, c.name+" and no body", before+c.record[:512], list[:read], c.want)
			checkRead(t, c.name+" and a byte in the padding", before+with(c.record, 1023, "x"), list[:read], c.want)
		}
	}
	checkRead(t, "a right header without its body", plain[:512], nil, impl.RdCut)
	checkRead(t, "text", strings.Repeat("not an archive\n", 100), nil, impl.RdSum)
	checkRead(t, "a short text", "not an archive", nil, impl.RdCut)
}

// invalidLists returns invalid lists whose entries all have headers.
func invalidLists() map[string][]impl.Entry {
	full := dir("full")
	full.Body = "data"
	tail := sym("s", "x")
	tail.Body = strings.Repeat("d", 512)
	tied := hard("h", "a")
	tied.Body = "hello"
	return map[string][]impl.Entry{
		"a Path twice":                  {file("a", "1"), dir("d"), file("a", "2")},
		"equal entries":                 {dir("d"), dir("d")},
		"a hard link ahead of its file": {hard("h", "a"), file("a", "")},
		"a hard link to nothing":        {file("a", ""), hard("h", "b")},
		"a hard link to a directory":    {dir("d"), hard("h", "d")},
		"a hard link to a hard link":    {file("a", ""), hard("g", "a"), hard("h", "g")},
		"a directory with data":         {full},
		"a symbolic link with data":     {file("a", ""), tail},
		"a hard link with data":         {file("a", ""), tied, dir("d")},
		"31 entries":                    files(31),
		"60 entries":                    files(60),
	}
}

// After the end the list is judged; all of its entries have been read then.
func TestArchiveOfAnInvalidList(t *testing.T) {
	for name, list := range invalidLists() {
		s := archiveOf(list)
		checkRead(t, name, s, list, impl.RdBad)
		// What happens up to the end counts first.
		checkRead(t, name+", without an end", s[:len(s)-1024], list, impl.RdEnd)
		checkRead(t, name+", with half an end", s[:len(s)-512], list, impl.RdEnd)
		checkRead(t, name+", with bytes behind", s+"x", list, impl.RdEnd)
		checkRead(t, name+", with a broken header", s[:len(s)-1024]+with(s, 0, "~"), list, impl.RdSum)
	}
	checkRead(t, "30 entries", archiveOf(files(30)), files(30), impl.RdOk)
}

// judge fails if GetUstar accepts what is not the archive of a list, or reads other entries than the bytes tell. It returns the code.
func judge(t *testing.T, s string) int {
	t.Helper()
	list, code := impl.GetUstar(s)
	if again, ok := impl.PutUstar(list); code == impl.RdOk && (!ok || again != s) {
		t.Fatalf("%q is accepted as %v", s, list)
	}
	records := strings.TrimSuffix(archiveOf(list), strings.Repeat("\x00", 1024))
	if !strings.HasPrefix(s, records) {
		t.Fatalf("%q is read as %v, %d", s, list, code)
	}
	if code < impl.RdOk || code > impl.RdEnd {
		t.Fatalf("%q has the code %d", s, code)
	}
	return code
}

// Every accepted archive is the archive of its list, whichever byte is another one, with the checksum right for it.
func TestAcceptedArchiveIsWritten(t *testing.T) {
	list := []impl.Entry{file("a", "hello"), hard("h", "a"), sym("s", "a"), dir("d")}
	s := archiveOf(list)
	codes := map[int]int{}
	for start := 0; start < len(s); start += 512 {
		for at := range 512 {
			for _, c := range "\x00\x01 /015ah" {
				changed := with(s, start+at, string(c))
				codes[judge(t, changed)]++
				if start != 512 && start < 2560 {
					codes[judge(t, changed[:start]+sealed(changed[start:]))]++
				}
			}
		}
	}
	for code, least := range map[int]int{impl.RdOk: 100, impl.RdSum: 100, impl.RdField: 100, impl.RdBad: 100, impl.RdEnd: 100} {
		if codes[code] < least {
			t.Errorf("the code %d occurs only %d times", code, codes[code])
		}
	}
}

// mixes yields archives of up to five parts in any order. Of many that begin in that way some are taken for the next part.
func mixes(parts []string, beginning string) iter.Seq[string] {
	const most = 1500
	random := rand.New(rand.NewSource(1))
	return func(yield func(string) bool) {
		archives := []string{""}
		for range 5 {
			var longer []string
			for _, s := range archives {
				for _, part := range parts {
					longer = append(longer, s+part)
					if !yield(s + part) {
						return
					}
				}
			}
			archives = longer
			if len(archives) > most {
				archives = slices.DeleteFunc(archives, func(s string) bool { return !strings.HasPrefix(s, beginning) })
				random.Shuffle(len(archives), func(i int, j int) { archives[i], archives[j] = archives[j], archives[i] })
				archives = archives[:min(len(archives), most)]
			}
		}
	}
}

// Archives of blocks in any order: only those that PutUstar writes are accepted.
func TestArchivesOfAnyBlocks(t *testing.T) {
	blocks := []string{
		recordOf(file("a", "")), recordOf(file("a", "hello")), recordOf(hard("h", "a")), recordOf(dir("d")),
		recordOf(file("a", "hello"))[:512], strings.Repeat("\x00", 512), "hello" + strings.Repeat("\x00", 507), "hello", rewritten(recordOf(dir("x")), 124, "00000000005"),
	}
	accepted := 0
	for s := range mixes(blocks, "") {
		if judge(t, s) == impl.RdOk {
			accepted++
		}
	}
	if accepted < 10 {
		t.Errorf("only %d archives are accepted", accepted)
	}
}

// The conventions: a result shares no memory with an argument, nor do two parts of it.
func TestUstarResultsAreNewMemory(t *testing.T) {
	long := strings.Clone(pathOf(60, 37, 56, 44))
	short := strings.Clone(longPath(90))
	for _, path := range []string{long, short} {
		prefix, name, ok := impl.Split(path)
		if !ok {
			t.Fatalf("Split(%q) fails", path)
		}
		checkApart(t, "Split", []string{prefix, name}, []string{path})
	}
	list := []impl.Entry{
		{Kind: impl.KFile, Path: short, User: strings.Repeat("u", 20), Group: strings.Repeat("g", 20), Body: strings.Repeat("b", 1000)},
		{Kind: impl.KFile, Path: long, User: strings.Repeat("u", 20), Body: strings.Repeat("b", 512)},
		{Kind: impl.KHard, Path: "h/" + short, Link: strings.Clone(short)},
	}
	s, ok := impl.PutUstar(list)
	if !ok {
		t.Fatal("PutUstar fails")
	}
	checkApart(t, "PutUstar", []string{s}, textsOf(list))
	for at := 0; at < len(s); at += 512 {
		e, flag, _, code := impl.GetHead(s[at:])
		if code == impl.RdOk {
			checkApart(t, "GetHead", append(textsOf([]impl.Entry{e}), flag), []string{s})
			checkApart(t, "PutHead", []string{impl.PutHead(list[0], flag, 0)}, append(textsOf(list), flag))
		}
	}
	for _, text := range []string{s, s[:len(s)-1], s[:len(s)-1024], s + s} {
		got, _ := impl.GetUstar(text)
		again, _ := impl.GetUstar(text)
		if len(got) != 3 {
			t.Errorf("%d entries are read", len(got))
		}
		checkApart(t, "GetUstar", append(textsOf(got), textsOf(again)...), []string{s, text})
		got[0] = impl.Entry{Path: "changed"}
		if !impl.SameList(again, list) {
			t.Error("a result is kept")
		}
	}
}

// The conventions: no argument is changed, not even what lies behind the end of a list.
func TestUstarChangesNothing(t *testing.T) {
	whole := append(fullList(), files(20)...)
	before := append([]impl.Entry(nil), whole...)
	for length := range len(whole) + 1 {
		list := whole[:length]
		impl.PutUstar(list)
		impl.Blocks(list)
		if !impl.SameList(whole, before) {
			t.Fatalf("with %d entries the argument is now %v", length, whole)
		}
	}
}

// The conventions: every function of the chapter answers whatever it is given.
func TestUstarAnswersAnything(t *testing.T) {
	random := rand.New(rand.NewSource(4))
	header := recordOf(file("a", ""))[:512]
	for range 3000 {
		text := make([]byte, random.Intn(2000))
		random.Read(text)
		s := string(text)
		judge(t, s)
		judge(t, header+s)
		if len(s) >= 512 {
			judge(t, sealed(s))
			if got := impl.HeadSum(s); got < 256 {
				t.Errorf("HeadSum is %d", got)
			}
		}
		impl.Split(s)
		impl.Kind(s)
		impl.PutHead(impl.Entry{Kind: random.Intn(6) - 1, Path: s, Link: s, Body: s}, s, len(s))
	}
	// Many entries are read, though their list is too long.
	var many strings.Builder
	for i := range 5000 {
		many.WriteString(recordOf(file("f"+impl.DecText(i), "x")))
	}
	got, code := impl.GetUstar(many.String() + strings.Repeat("\x00", 1024))
	if len(got) != 5000 || code != impl.RdBad {
		t.Errorf("of 5000 entries %d are read, %d", len(got), code)
	}
	huge := strings.Repeat("x/", 1<<15)
	for _, e := range []impl.Entry{{}, {Path: huge}, {Path: "a", Link: huge}, {Path: "a", User: huge, Group: huge, Body: huge}} {
		if impl.UstarFits(e) || impl.PutHead(e, "0", 0) != "" || impl.Blocks([]impl.Entry{e}) != 0 {
			t.Errorf("%.100v is accepted", e)
		}
	}
	judge(t, huge)
	judge(t, strings.Repeat("\x00", 1<<20))
}
