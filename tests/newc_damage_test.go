package tests

import (
	"math"
	"math/rand"
	"slices"
	"strings"
	"testing"

	"loop.example/g00413/impl"
)

// Promise 8, an archive that GetNewc accepts is PutNewc of what it returned: GetNewc of what PutNewc did not write, and the conventions.

// judgeNewc fails unless GetNewc reads what the bytes tell, and accepts only what PutNewc writes. It returns the code.
func judgeNewc(t *testing.T, s string) int {
	t.Helper()
	crc := strings.HasPrefix(s, "070702")
	want, wantCode := readBy(s, func(s string, i int) (impl.Card, int, int) { return newAt(s, i, crc) }, newTrailer(crc))
	got, gotCrc, code := impl.GetNewc(s)
	if code != wantCode || gotCrc != (crc && code == impl.RdOk) || !impl.SameList(got, want) {
		t.Fatalf("%.2000q is read as %+v, %v, %d; want %+v, %d", s, got, gotCrc, code, want, wantCode)
	}
	if again, ok := impl.PutNewc(got, gotCrc); code == impl.RdOk && (!ok || again != s) {
		t.Fatalf("%.2000q is accepted as %+v", s, got)
	}
	return code
}

// newStarts returns where the cards of a list start in its archive, and where its trailer does.
func newStarts(list []impl.Entry) []int {
	starts := []int{0}
	for i, c := range cardsFor(list) {
		starts = append(starts, starts[i]+len(newText(c, false)))
	}
	return starts
}

// The cuts are within the header, the name, the data and the padding of every card.
func TestNewcCutAtEveryLength(t *testing.T) {
	for _, list := range [][]impl.Entry{nil, {dir("d")}, odcList(), {file("pp", "1"), file("ppp", "22"), file("pppp", "333"), file("ppppp", "4444")}} {
		starts := newStarts(list)
		for crc := range newMagics {
			s := newcOf(list, crc)
			if last := starts[len(starts)-1]; s[last:] != newTrailer(crc) {
				t.Fatalf("the trailer is not at %d", last)
			}
			for length := range len(s) {
				want := impl.RdCut
				if slices.Contains(starts, length) {
					want = impl.RdEnd
				}
				checkNoNewc(t, "the first "+impl.DecText(length)+" bytes", s[:length], want)
				judgeNewc(t, s[:length])
			}
			checkNewc(t, "the whole archive", s, list, crc)
		}
	}
}

func TestNewcGoesOn(t *testing.T) {
	for _, list := range [][]impl.Entry{nil, {dir("d")}, odcList()} {
		for crc := range newMagics {
			s := newcOf(list, crc)
			wrong := newText(newCard(), crc)
			for _, behind := range []string{"x", "\x00", "\x00\x00\x00\x00", "\n", "0", newTrailer(crc), newTrailer(!crc), wrong, s, strings.Repeat("\x00", 512), newMagics[crc], strings.Repeat("g", 200), wrong[:111], trailerText} {
				checkNoNewc(t, "an archive that goes on", s+behind, impl.RdEnd)
				// It counts ahead of what is wrong with the cards and with the trailer.
				checkNoNewc(t, "one of a wrong card that goes on", wrong+s+behind, impl.RdEnd)
				checkNoNewc(t, "one with data in the trailer that goes on", newTexts(list, crc)+newText(impl.Card{Count: 1, Path: trailer, Data: "x"}, crc)+behind, impl.RdEnd)
			}
		}
	}
}

func TestNewcTrailers(t *testing.T) {
	plain := impl.Card{Count: 1, Path: trailer}
	for crc := range newMagics {
		if newText(plain, crc) != newTrailer(crc) {
			t.Fatal("the trailer is another one")
		}
		for _, list := range [][]impl.Entry{nil, {dir("d")}, odcList()} {
			ahead := newTexts(list, crc)
			wrong := []impl.Card{{Path: trailer}, {Count: 2, Path: trailer}, {Count: greatestNew, Path: trailer}}
			for _, data := range []string{"x", "\x00", "\x00\x00\x00\x00", trailer, newTrailer(crc), strings.Repeat("d", 5000)} {
				wrong = append(wrong, impl.Card{Count: 1, Path: trailer, Data: data})
			}
			for _, f := range newFields() {
				for _, n := range []int{2, len(list) + 1, 0o100644, greatestNew} {
					c := plain
					if f.set(&c, n); c != plain {
						wrong = append(wrong, c)
					}
				}
			}
			for _, c := range wrong {
				s := ahead + newText(c, crc)
				checkNoNewc(t, "an archive with another trailer", s, impl.RdBad)
				checkNoNewc(t, "one with two trailers", s+newTrailer(crc), impl.RdEnd)
				checkNoNewc(t, "one with another trailer, cut", s[:len(s)-1], impl.RdCut)
			}
			// A trailer with the fields of an entry is still one.
			for _, e := range oneOfEach()[:3] {
				e.Path = trailer
				checkNoNewc(t, "an entry with the Path of the trailer", newTexts(append(slices.Clone(list), e), crc), impl.RdBad)
				checkNoNewc(t, "one ahead of the trailer", newcOf(append(slices.Clone(list), e), crc), impl.RdEnd)
			}
			for _, path := range []string{"", "TRAILER!!", "TRAILER!!!!", "trailer!!!", "TRAILER", trailer + "/", "./" + trailer, " " + trailer} {
				other := ahead + newText(impl.Card{Count: 1, Path: path}, crc)
				checkNoNewc(t, "an archive with no trailer, but "+path, other, impl.RdEnd)
				checkNoNewc(t, "one with a trailer behind "+path, other+newTrailer(crc), impl.RdBad)
			}
			// What is wrong with the card of a trailer, its padding among it.
			end := newTrailer(crc)
			for at := len(end) - 3; at < len(end); at++ {
				checkNoNewc(t, "a trailer with wrong padding", ahead+with(end, at, "\n"), impl.RdBad)
			}
			checkNoNewc(t, "a trailer with a wrong last number", ahead+with(end, newSum, "00000001"), impl.RdSum)
			checkNoNewc(t, "a trailer with a wrong last number that goes on", ahead+with(end, newSum, "00000001")+"x", impl.RdSum)
			checkNoNewc(t, "a trailer without padding", ahead+end[:len(end)-3], impl.RdCut)
			checkNoNewc(t, "an archive without a trailer", ahead, impl.RdEnd)
			checkNewc(t, "one with a trailer", ahead+end, list, crc)
		}
	}
}

// Each code of a card ends the reading, wherever the card is and whatever is wrong with the ones ahead of it.
func TestBadCardInNewc(t *testing.T) {
	list := odcList()
	for crc := range newMagics {
		s := newcOf(list, crc)
		plain := newText(impl.Card{Ino: 9, Mode: 0o100644, Count: 1, Path: "zz", Data: "body!"}, crc)
		if len(plain) != 124 {
			t.Fatalf("the card has %d bytes", len(plain))
		}
		for _, start := range newStarts(list) {
			for _, c := range []struct {
				name, card string
				want       int
			}{
				{"another magic", with(plain, 0, "070707"), impl.RdBad},
				{"another magic and a malformed number", with(with(plain, 0, "x"), 20, "x"), impl.RdBad},
				{"a malformed number", with(plain, 12, "x"), impl.RdField},
				{"a capital digit", with(plain, newSum, "A"), impl.RdField},
				{"a first zero that is not 0", with(plain, newZeros+7, "1"), impl.RdField},
				{"a fourth zero that is not 0", with(plain, newPathSize-1, "1"), impl.RdField},
				{"a malformed number and no name", with(with(plain, 12, "x"), newPathSize, "00000000"), impl.RdField},
				{"much data", with(plain, newDataSize, "ffffffff"), impl.RdCut},
				{"much data and an empty name", with(with(plain, newDataSize, "ffffffff"), newPathSize, "00000000"), impl.RdCut},
				{"an empty name", with(plain, newPathSize, "00000000"), impl.RdBad},
				{"a name without NUL", with(plain, 112, "x"), impl.RdBad},
				{"a name with two NULs", with(plain, 110, "\x00"), impl.RdBad},
				{"a name that ends early", with(plain, newPathSize, "00000002"), impl.RdBad},
				{"padding of the name that is not NUL", with(plain, 113, "x"), impl.RdBad},
				{"the last byte of the name's padding", with(plain, 115, "x"), impl.RdBad},
				{"padding of the data that is not NUL", with(plain, 121, "x"), impl.RdBad},
				{"the last byte of the data's padding", with(plain, 123, "\x01"), impl.RdBad},
				{"padding and the last number", with(with(plain, 123, "\x01"), newSum, "00000007"), impl.RdBad},
				{"a wrong last number", with(plain, newSum, "00000007"), impl.RdSum},
			} {
				checkNoNewc(t, c.name, s[:start]+c.card+s[start:], c.want)
				checkNoNewc(t, c.name+", without an end", s[:start]+c.card, c.want)
				checkNoNewc(t, c.name+", behind a wrong card", plain+plain+s[:start]+c.card+s[start:], c.want)
				checkNoNewc(t, c.name+", ahead of another", s[:start]+c.card+"x"+plain, c.want)
				// Behind the trailer there are no cards.
				checkNoNewc(t, c.name+", behind the trailer", s+c.card, impl.RdEnd)
			}
			checkNoNewc(t, "half a card", s[:start]+plain[:len(plain)-1], impl.RdCut)
			checkNoNewc(t, "half a header", s[:start]+plain[:40], impl.RdCut)
			checkNoNewc(t, "a byte", s[:start]+"x", impl.RdCut)
			checkNoNewc(t, "a card that is complete, but not of the list", s[:start]+plain+s[start:], impl.RdBad)
			checkNoNewc(t, "only complete cards", s[:start]+plain, impl.RdEnd)
		}
	}
	checkNoNewc(t, "nothing", "", impl.RdEnd)
	checkNoNewc(t, "a short text", "not an archive", impl.RdCut)
	checkNoNewc(t, "a text", strings.Repeat("not an archive\n", 100), impl.RdBad)
	checkNoNewc(t, "an ustar archive", archiveOf(files(2)), impl.RdBad)
	checkNoNewc(t, "octal headers", odcOf(odcList()), impl.RdBad)
}

// The first bytes of an archive tell the magic of all its cards and of its trailer.
func TestNewcOfBothMagics(t *testing.T) {
	list := odcList()
	cards := append(cardsFor(list), impl.Card{Count: 1, Path: trailer})
	for chosen := range 1 << len(cards) {
		s := ""
		for i, c := range cards {
			s += newText(c, chosen>>i&1 == 1)
		}
		switch chosen {
		case 0:
			checkNewc(t, "an archive without checksums", s, list, false)
		case 1<<len(cards) - 1:
			checkNewc(t, "an archive with checksums", s, list, true)
		default:
			checkNoNewc(t, "an archive of both magics", s, impl.RdBad)
			judgeNewc(t, s)
		}
	}
	// Without a trailer, and with another magic behind it.
	for crc := range newMagics {
		checkNoNewc(t, "one card of each magic", newTexts(list[:1], crc)+newTexts(list[:1], !crc), impl.RdBad)
		checkNoNewc(t, "a trailer of the other magic", newTrailer(crc)+newTrailer(!crc), impl.RdEnd)
	}
	// Cards without data differ in nothing but the magic.
	empty := []impl.Entry{dir("d"), file("e", ""), hard("h", "e")}
	plain, summed := newcOf(empty, false), newcOf(empty, true)
	if strings.ReplaceAll(plain, "070701", "070702") != summed {
		t.Errorf("the archives are %q and %q", plain, summed)
	}
	for at := 0; at < len(plain); at += 4 {
		if strings.HasPrefix(plain[at:], "070701") {
			checkNoNewc(t, "another magic", with(plain, at, "070702"), impl.RdBad)
			checkNoNewc(t, "another magic", with(summed, at, "070701"), impl.RdBad)
		}
	}
}

// Cards that are well formed, but that PutNewc would not write, count after all else.
func TestNewcOfWrongCards(t *testing.T) {
	refused := 0
	check := func(name string, cards []impl.Card) {
		t.Helper()
		refused++
		for crc := range newMagics {
			text, end := "", newTrailer(crc)
			for _, c := range cards {
				text += newText(c, crc)
			}
			checkNoNewc(t, name, text+end, impl.RdBad)
			checkNoNewc(t, name+", without an end", text, impl.RdEnd)
			checkNoNewc(t, name+", that goes on", text+end+"x", impl.RdEnd)
			checkNoNewc(t, name+", with a malformed card", text+with(end, 20, "x"), impl.RdField)
			checkNoNewc(t, name+", with a wrong last number", text+with(end, newSum, "00000001"), impl.RdSum)
			checkNoNewc(t, name+", cut", text+end[:len(end)-1], impl.RdCut)
		}
	}
	for name, list := range greatInvalidLists() {
		// Cards do not tell of each of these what is wrong with it.
		if cards := cardsFor(reducedToNew(list)); len(sources(cards)) == 0 {
			check(name, cards)
		}
	}
	if refused < 8 {
		t.Errorf("only %d invalid lists have cards", refused)
	}
	cards := cardsFor(odcList())
	for i, c := range cards {
		for _, changed := range otherCards(c) {
			whole := slices.Concat(cards[:i], []impl.Card{changed}, cards[i+1:])
			// Only what has a form in an archive, and is no trailer.
			if impl.PutNew(changed, true) != "" && !strings.Contains(changed.Path, "\x00") && changed.Path != trailer && len(sources(whole)) == 0 {
				check("a changed card", whole)
			}
		}
		if i > 0 {
			check("the cards without the first ones", cards[i:])
		}
		check("a card twice", slices.Insert(slices.Clone(cards), i, c))
	}
	if refused < 300 {
		t.Errorf("only %d are refused", refused)
	}
	checkNewcOf(t, "the cards", odcList())
}

// Whichever byte is another one: what is accepted is the archive of its list. With checksums no byte of a body may be another one.
func TestAcceptedNewcIsWritten(t *testing.T) {
	codes := map[int]int{}
	for _, list := range [][]impl.Entry{nil, odcList(), {file("a", "x"), hard("h", "a")}} {
		for crc := range newMagics {
			s := newcOf(list, crc)
			for at := range s {
				for _, c := range "\x00\x01 /01247ah" {
					codes[judgeNewc(t, with(s, at, string(c)))]++
				}
				codes[judgeNewc(t, s[:at]+s[at+1:])]++
				codes[judgeNewc(t, s[:at]+"0"+s[at:])]++
				codes[judgeNewc(t, s[:at]+"\x00"+s[at:])]++
			}
		}
	}
	for code, least := range map[int]int{impl.RdOk: 500, impl.RdCut: 100, impl.RdField: 1000, impl.RdBad: 1000, impl.RdSum: 100, impl.RdEnd: 10} {
		if codes[code] < least {
			t.Errorf("the code %d occurs only %d times", code, codes[code])
		}
	}
	body := strings.Repeat("b", 2998)
	s := newcOf([]impl.Entry{file("a", body)}, true)
	at := strings.Index(s, body)
	for i := range body {
		checkNoNewc(t, "a changed body", with(s, at+i, "c"), impl.RdSum)
	}
	// The sum does not tell the order, so this is the archive of another list.
	checkNewc(t, "two changed bytes", with(with(s, at, "a"), at+7, "c"), []impl.Entry{file("a", "a"+body[:6]+"c"+body[8:])}, true)
}

// Archives of cards in any order: only those that PutNewc writes are accepted.
func TestNewcOfAnyCards(t *testing.T) {
	card := func(crc bool, ino int, count int, mode int, path string, data string) string {
		return newText(impl.Card{Ino: ino, Mode: mode, Count: count, Path: path, Data: data}, crc)
	}
	for crc := range newMagics {
		parts := []string{
			card(crc, 1, 1, 0o100644, "a", "hello"), card(crc, 1, 2, 0o100644, "a", "hello"), card(crc, 1, 2, 0o100644, "h", ""), card(crc, 1, 2, 0o040755, "d", ""), card(crc, 2, 2, 0o040755, "d", ""),
			card(crc, 2, 1, 0o120777, "s", "a"), newTrailer(crc), newText(impl.Card{Path: trailer}, crc), card(crc, 1, 1, 0o100644, "a", "hello")[:115], newTrailer(!crc), card(!crc, 1, 1, 0o100644, "a", "hello"),
		}
		accepted := 0
		for s := range mixes(parts, "") {
			if judgeNewc(t, s) == impl.RdOk {
				accepted++
			}
		}
		if accepted < 10 {
			t.Errorf("only %d archives are accepted", accepted)
		}
	}
}

// The conventions: a result shares no memory with an argument, nor do two parts of it.
func TestNewcResultsAreNewMemory(t *testing.T) {
	list := []impl.Entry{
		{Kind: impl.KFile, Path: strings.Clone(longPath(90)), Body: strings.Repeat("b", 1000)},
		{Kind: impl.KHard, Path: strings.Clone(longPath(120)), Link: strings.Clone(longPath(90))},
		{Kind: impl.KHard, Path: strings.Clone(longPath(150)), Link: strings.Clone(longPath(90))},
		{Kind: impl.KSym, Path: strings.Clone(longPath(180)), Link: strings.Repeat("l", 150)},
		{Kind: impl.KDir, Path: strings.Clone(longPath(200))},
	}
	for crc := range newMagics {
		s, ok := impl.PutNewc(list, crc)
		if !ok {
			t.Fatal("PutNewc fails")
		}
		checkApart(t, "PutNewc", []string{s}, textsOf(list))
		first, _, _ := impl.GetNewc(s)
		second, _, _ := impl.GetNewc(s)
		checkApart(t, "GetNewc", append(textsOf(first), textsOf(second)...), []string{s})
		first[0] = impl.Entry{Path: "changed"}
		if !impl.SameList(second, list) {
			t.Error("a result of GetNewc is kept")
		}
		for at := 0; at < len(s); {
			c, next, code := impl.GetNew(s, at, crc)
			if code != impl.RdOk {
				t.Fatalf("the card at %d has the code %d", at, code)
			}
			checkApart(t, "GetNew", textsOfCards([]impl.Card{c}), []string{s})
			checkApart(t, "PutNew", []string{impl.PutNew(c, crc)}, textsOfCards([]impl.Card{c}))
			at = next
		}
	}
}

// The conventions: no argument is changed, not even what lies behind the end of a list.
func TestNewcChangesNothing(t *testing.T) {
	whole := append(reducedToNew(greatList()), files(20)...)
	before := slices.Clone(whole)
	for length := range len(whole) + 1 {
		for crc := range newMagics {
			s, _ := impl.PutNewc(whole[:length], crc)
			list, _, _ := impl.GetNewc(s)
			for i := range list {
				list[i] = impl.Entry{Path: "changed"}
			}
			_ = append(list, impl.Entry{Path: "changed"})
			if !impl.SameList(whole, before) {
				t.Fatalf("with %d entries the argument is now %v", length, whole)
			}
		}
	}
}

// The conventions: every function of the chapter answers whatever it is given.
func TestNewcAnswersAnything(t *testing.T) {
	random := rand.New(rand.NewSource(8))
	for range 3000 {
		text := make([]byte, random.Intn(300))
		random.Read(text)
		s := string(text)
		digits := strings.Map(func(r rune) rune { return rune("0123456789abcdef"[r%16]) }, s)
		few := strings.Map(func(r rune) rune { return '0' + r%16/15 }, s)
		crc := random.Intn(2) == 1
		magic := newMagics[crc]
		for _, archive := range []string{s, magic + s, magic + digits, magic + few, magic + few[:min(len(few), 56)] + strings.Repeat("0", 32) + few, newText(newCard(), crc) + s, s + newTrailer(crc), magic + digits + newTrailer(crc)} {
			judgeNewc(t, archive)
			judgeNew(t, archive, random.Intn(400)-20, crc)
			judgeNew(t, archive, 0, crc)
		}
		n := func() int { return random.Int() >> random.Intn(64) * (random.Intn(5) - 1) }
		c := impl.Card{Ino: n(), Mode: n(), Uid: n(), Gid: n(), Count: n(), Time: n(), Path: s, Data: s}
		if got := impl.PutNew(c, crc); got != "" && got != newText(c, crc) {
			t.Fatalf("PutNew(%+v) is %q", c, got)
		}
		e := impl.Entry{Kind: random.Intn(6) - 1, Path: s, Link: s, Mode: n(), Uid: n(), Body: s}
		impl.NewFits(e)
		impl.PutNewc([]impl.Entry{e}, crc)
	}
	for crc := range newMagics {
		for _, c := range []impl.Card{{}, {Ino: math.MinInt, Mode: math.MinInt}, {Ino: math.MaxInt, Mode: math.MaxInt, Count: math.MinInt}} {
			if got := impl.PutNew(c, crc); got != "" && c != (impl.Card{}) {
				t.Errorf("PutNew(%+v) is %q", c, got)
			}
		}
		// All cards are gone through, though there are too many.
		text, end := strings.Repeat(newText(newCard(), crc), 20000), newTrailer(crc)
		checkNoNewc(t, "20000 cards", text+end, impl.RdBad)
		checkNoNewc(t, "20000 cards without an end", text, impl.RdEnd)
		checkNoNewc(t, "20000 cards and a malformed one", text+with(end, 75, "g"), impl.RdField)
		checkNoNewc(t, "20000 cards and a wrong last number", text+with(end, newSum, "00000001"), impl.RdSum)
	}
	huge := strings.Repeat("x/", 1<<15)
	for _, e := range []impl.Entry{{}, {Path: huge}, {Kind: impl.KSym, Path: "a", Link: huge}, {Path: "a", User: huge, Group: huge, Body: huge}, {Kind: math.MaxInt, Path: "a"}, {Kind: -1, Path: "a"}} {
		if impl.NewFits(e) {
			t.Errorf("%.100v fits", e)
		}
		checkNoNewcOf(t, "an entry that does not fit", []impl.Entry{e})
	}
	judgeNewc(t, huge)
	judgeNewc(t, strings.Repeat("\x00", 1<<20))
}
