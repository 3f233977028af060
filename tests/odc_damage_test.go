package tests

import (
	"math"
	"math/rand"
	"slices"
	"strings"
	"testing"

	"loop.example/g00413/impl"
)

// Promise 7, an archive that GetOdc accepts is PutOdc of what it returned: GetOdc of what PutOdc did not write, and the conventions.

// readBy says what the reader of a format returns in other words than the program does, with at for its cards and end for its trailer.
func readBy(s string, at func(s string, i int) (impl.Card, int, int), end string) ([]impl.Entry, int) {
	var cards []impl.Card
	for i := 0; i < len(s); {
		c, next, code := at(s, i)
		if code != impl.RdOk {
			return nil, code
		}
		if c.Path != trailer {
			cards = append(cards, c)
			i = next
			continue
		}
		if next < len(s) {
			return nil, impl.RdEnd
		}
		if lists := sources(cards); len(lists) == 1 && s[i:] == end {
			return lists[0], impl.RdOk
		}
		return nil, impl.RdBad
	}
	return nil, impl.RdEnd
}

// judgeOdc fails unless GetOdc reads what the bytes tell, and accepts only what PutOdc writes. It returns the code.
func judgeOdc(t *testing.T, s string) int {
	t.Helper()
	want, wantCode := readBy(s, cardAt, trailerText)
	got, code := impl.GetOdc(s)
	if code != wantCode || !impl.SameList(got, want) {
		t.Fatalf("%.2000q is read as %+v, %d; want %+v, %d", s, got, code, want, wantCode)
	}
	if again, ok := impl.PutOdc(got); code == impl.RdOk && (!ok || again != s) {
		t.Fatalf("%.2000q is accepted as %+v", s, got)
	}
	return code
}

// odcList returns a list with entries of every kind, a file with two links, and one with an empty Body.
func odcList() []impl.Entry {
	return []impl.Entry{file("a", "hello"), dir("d"), hard("d/h", "a"), sym("s", "../x"), file("e", ""), hard("i", "a")}
}

// startsIn returns where the cards of a list start in its archive, and where its trailer does.
func startsIn(list []impl.Entry) []int {
	starts := []int{0}
	for i := range list {
		starts = append(starts, starts[i]+len(cardText(cardsFor(list)[i])))
	}
	return starts
}

func TestOdcCutAtEveryLength(t *testing.T) {
	for _, list := range [][]impl.Entry{nil, {dir("d")}, odcList()} {
		s := odcOf(list)
		starts := startsIn(list)
		if last := starts[len(starts)-1]; s[last:] != trailerText {
			t.Fatalf("the trailer is not at %d", last)
		}
		for length := range len(s) {
			want := impl.RdCut
			if slices.Contains(starts, length) {
				want = impl.RdEnd
			}
			checkNoOdc(t, "the first "+impl.DecText(length)+" bytes", s[:length], want)
			judgeOdc(t, s[:length])
		}
		checkOdc(t, "the whole archive", s, list)
	}
}

func TestOdcGoesOn(t *testing.T) {
	for _, list := range [][]impl.Entry{nil, {dir("d")}, odcList()} {
		s := odcOf(list)
		for _, behind := range []string{"x", "\x00", "\n", "0", trailerText, cardText(oneCard()), s, strings.Repeat("\x00", 512), "070707", "070701", strings.Repeat("8", 100), cardText(oneCard())[:77]} {
			checkNoOdc(t, "an archive that goes on", s+behind, impl.RdEnd)
			// It counts ahead of what is wrong with the cards and with the trailer.
			checkNoOdc(t, "one of a wrong card that goes on", cardText(oneCard())+s+behind, impl.RdEnd)
			checkNoOdc(t, "one with data in the trailer that goes on", cardsText(list)+cardText(impl.Card{Count: 1, Path: trailer, Data: "x"})+behind, impl.RdEnd)
		}
	}
}

func TestOdcTrailers(t *testing.T) {
	plain := impl.Card{Count: 1, Path: trailer}
	if cardText(plain) != trailerText {
		t.Fatal("the trailer is another one")
	}
	for _, list := range [][]impl.Entry{nil, {dir("d")}, odcList()} {
		ahead := cardsText(list)
		wrong := []impl.Card{{Path: trailer}, {Count: 2, Path: trailer}, {Count: 262143, Path: trailer}}
		for _, data := range []string{"x", "\x00", trailer, trailerText, strings.Repeat("d", 5000)} {
			wrong = append(wrong, impl.Card{Count: 1, Path: trailer, Data: data})
		}
		for _, f := range odcFields() {
			for _, n := range []int{2, len(list) + 1, 0o100644 % (1 << (3 * f.size)), 1<<(3*f.size) - 1} {
				c := plain
				if f.set(&c, n); c != plain {
					wrong = append(wrong, c)
				}
			}
		}
		for _, c := range wrong {
			s := ahead + cardText(c)
			checkNoOdc(t, "an archive with another trailer", s, impl.RdBad)
			checkNoOdc(t, "one with two trailers", s+trailerText, impl.RdEnd)
			checkNoOdc(t, "one with another trailer, cut", s[:len(s)-1], impl.RdCut)
		}
		// A trailer with the fields of an entry is still one.
		for _, e := range oneOfEach()[:3] {
			e.Path = trailer
			checkNoOdc(t, "an entry with the Path of the trailer", cardsText(append(slices.Clone(list), e)), impl.RdBad)
			checkNoOdc(t, "one ahead of the trailer", odcOf(append(slices.Clone(list), e)), impl.RdEnd)
		}
		for _, path := range []string{"", "TRAILER!!", "TRAILER!!!!", "trailer!!!", "TRAILER", trailer + "/", "./" + trailer, " " + trailer} {
			checkNoOdc(t, "an archive with no trailer, but "+path, ahead+cardText(impl.Card{Count: 1, Path: path}), impl.RdEnd)
			checkNoOdc(t, "one with a trailer behind "+path, ahead+cardText(impl.Card{Count: 1, Path: path})+trailerText, impl.RdBad)
		}
		checkNoOdc(t, "an archive without a trailer", ahead, impl.RdEnd)
		checkOdc(t, "one with a trailer", ahead+trailerText, list)
	}
}

// Each code of a card ends the reading, wherever the card is and whatever is wrong with the ones ahead of it.
func TestBadCardInOdc(t *testing.T) {
	list := odcList()
	s := odcOf(list)
	plain := cardText(impl.Card{Ino: 9, Mode: 0o100644, Count: 1, Path: "z", Data: "body"})
	for _, start := range startsIn(list) {
		for _, c := range []struct {
			name, card string
			want       int
		}{
			{"another magic", with(plain, 0, "070701"), impl.RdBad},
			{"another magic and a malformed number", with(with(plain, 0, "x"), 20, "x"), impl.RdBad},
			{"a malformed number", with(plain, 12, "x"), impl.RdField},
			{"a malformed length", with(plain, 65, "9"), impl.RdField},
			{"a first zero that is not 0", with(plain, 11, "1"), impl.RdField},
			{"a second zero that is not 0", with(plain, 47, "1"), impl.RdField},
			{"a malformed number and no name", with(with(plain, 12, "x"), 59, "000000"), impl.RdField},
			{"much data", with(plain, 65, "77777777777"), impl.RdCut},
			{"much data and an empty name", with(plain, 59, "00000077777777777"), impl.RdCut},
			{"an empty name", with(plain, 59, "000000"), impl.RdBad},
			{"a name without NUL", with(plain, 77, "x"), impl.RdBad},
			{"a name with two NULs", with(plain, 76, "\x00"), impl.RdBad},
			{"a name that ends early", with(plain, 59, "000001"), impl.RdBad},
		} {
			checkNoOdc(t, c.name, s[:start]+c.card+s[start:], c.want)
			checkNoOdc(t, c.name+", without an end", s[:start]+c.card, c.want)
			checkNoOdc(t, c.name+", behind a wrong card", plain+plain+s[:start]+c.card+s[start:], c.want)
			checkNoOdc(t, c.name+", ahead of another", s[:start]+c.card+"x"+plain, c.want)
			// Behind the trailer there are no cards.
			checkNoOdc(t, c.name+", behind the trailer", s+c.card, impl.RdEnd)
		}
		checkNoOdc(t, "half a card", s[:start]+plain[:len(plain)-1], impl.RdCut)
		checkNoOdc(t, "half a header", s[:start]+plain[:40], impl.RdCut)
		checkNoOdc(t, "a byte", s[:start]+"x", impl.RdCut)
		checkNoOdc(t, "a card that is complete, but not of the list", s[:start]+plain+s[start:], impl.RdBad)
		checkNoOdc(t, "only complete cards", s[:start]+plain, impl.RdEnd)
	}
	checkNoOdc(t, "nothing", "", impl.RdEnd)
	checkNoOdc(t, "a short text", "not an archive", impl.RdCut)
	checkNoOdc(t, "a text", strings.Repeat("not an archive\n", 100), impl.RdBad)
	checkNoOdc(t, "an ustar archive", archiveOf(files(2)), impl.RdBad)
}

// Cards that are well formed, but that PutOdc would not write, count after all else.
func TestOdcOfWrongCards(t *testing.T) {
	refused := 0
	check := func(name string, cards []impl.Card) {
		t.Helper()
		text := ""
		for _, c := range cards {
			text += cardText(c)
		}
		checkNoOdc(t, name, text+trailerText, impl.RdBad)
		checkNoOdc(t, name+", without an end", text, impl.RdEnd)
		checkNoOdc(t, name+", that goes on", text+trailerText+"x", impl.RdEnd)
		checkNoOdc(t, name+", with a malformed card", text+with(trailerText, 20, "x"), impl.RdField)
		checkNoOdc(t, name+", with a wrong magic", text+with(trailerText, 0, "x"), impl.RdBad)
		checkNoOdc(t, name+", cut", text+trailerText[:80], impl.RdCut)
		refused++
	}
	for name, list := range greatInvalidLists() {
		// Cards do not tell of each of these what is wrong with it.
		if cards := cardsFor(reducedToOdc(list)); len(sources(cards)) == 0 {
			check(name, cards)
		}
	}
	if refused < 8 {
		t.Errorf("only %d invalid lists have cards", refused)
	}
	cards := cardsFor(odcList())
	for i, c := range cards {
		for _, changed := range otherCards(c) {
			whole := slices.Concat(cards[:i], []impl.Card{changed}, cards[i+1:])
			// Only what has a form in an archive, and is no trailer.
			if impl.PutCard(changed) != "" && !strings.Contains(changed.Path, "\x00") && changed.Path != trailer && len(sources(whole)) == 0 {
				check("a changed card", whole)
			}
		}
		if i > 0 {
			check("the cards without the first ones", cards[i:])
		}
		check("a card twice", slices.Insert(slices.Clone(cards), i, c))
	}
	if refused < 300 {
		t.Errorf("only %d are refused", refused)
	}
	checkOdc(t, "the cards", odcOf(odcList()), odcList())
}

// Whichever byte is another one: what is accepted is the archive of its list.
func TestAcceptedOdcIsWritten(t *testing.T) {
	codes := map[int]int{}
	for _, list := range [][]impl.Entry{nil, odcList(), {file("a", "x"), hard("h", "a")}} {
		s := odcOf(list)
		for at := range s {
			for _, c := range "\x00\x01 /01247ah" {
				codes[judgeOdc(t, with(s, at, string(c)))]++
			}
			codes[judgeOdc(t, s[:at]+s[at+1:])]++
			codes[judgeOdc(t, s[:at]+"0"+s[at:])]++
		}
	}
	for code, least := range map[int]int{impl.RdOk: 500, impl.RdCut: 100, impl.RdField: 1000, impl.RdBad: 1000, impl.RdEnd: 10} {
		if codes[code] < least {
			t.Errorf("the code %d occurs only %d times", code, codes[code])
		}
	}
}

// Archives of cards in any order: only those that PutOdc writes are accepted.
func TestOdcOfAnyCards(t *testing.T) {
	card := func(ino int, count int, mode int, path string, data string) string {
		return cardText(impl.Card{Ino: ino, Mode: mode, Count: count, Path: path, Data: data})
	}
	parts := []string{
		card(1, 1, 0o100644, "a", "hello"), card(1, 2, 0o100644, "a", "hello"), card(1, 2, 0o100644, "h", ""), card(1, 2, 0o040755, "d", ""), card(2, 2, 0o040755, "d", ""),
		card(2, 1, 0o120777, "s", "a"), card(3, 1, 0o120777, "s", "a"), trailerText, cardText(impl.Card{Path: trailer}), card(1, 1, 0o100644, "a", "hello")[:79], "x",
	}
	accepted := 0
	for s := range mixes(parts, "") {
		if judgeOdc(t, s) == impl.RdOk {
			accepted++
		}
	}
	if accepted < 10 {
		t.Errorf("only %d archives are accepted", accepted)
	}
}

func textsOfCards(cards []impl.Card) []string {
	var texts []string
	for _, c := range cards {
		texts = append(texts, c.Path, c.Data)
	}
	return texts
}

// The conventions: a result shares no memory with an argument, nor do two parts of it.
func TestOdcResultsAreNewMemory(t *testing.T) {
	list := []impl.Entry{
		{Kind: impl.KFile, Path: strings.Clone(longPath(90)), Body: strings.Repeat("b", 1000)},
		{Kind: impl.KHard, Path: strings.Clone(longPath(120)), Link: strings.Clone(longPath(90))},
		{Kind: impl.KHard, Path: strings.Clone(longPath(150)), Link: strings.Clone(longPath(90))},
		{Kind: impl.KSym, Path: strings.Clone(longPath(180)), Link: strings.Repeat("l", 150)},
		{Kind: impl.KDir, Path: strings.Clone(longPath(200))},
	}
	cards := impl.CardsOf(list)
	again := impl.CardsOf(list)
	checkApart(t, "CardsOf", append(textsOfCards(cards), textsOfCards(again)...), textsOf(list))
	cards[0] = impl.Card{Path: "changed"}
	if !slices.Equal(again, cardsFor(list)) {
		t.Error("a result of CardsOf is kept")
	}
	first, _ := impl.EntriesOf(again)
	second, _ := impl.EntriesOf(again)
	checkApart(t, "EntriesOf", append(textsOf(first), textsOf(second)...), textsOfCards(again))
	first[0] = impl.Entry{Path: "changed"}
	if !impl.SameList(second, list) {
		t.Error("a result of EntriesOf is kept")
	}
	s, ok := impl.PutOdc(list)
	if !ok {
		t.Fatal("PutOdc fails")
	}
	checkApart(t, "PutOdc", []string{s}, textsOf(list))
	first, _ = impl.GetOdc(s)
	second, _ = impl.GetOdc(s)
	checkApart(t, "GetOdc", append(textsOf(first), textsOf(second)...), []string{s})
	first[0] = impl.Entry{Path: "changed"}
	if !impl.SameList(second, list) {
		t.Error("a result of GetOdc is kept")
	}
	for at := 0; at < len(s); {
		c, next, code := impl.GetCard(s, at)
		if code != impl.RdOk {
			t.Fatalf("the card at %d has the code %d", at, code)
		}
		checkApart(t, "GetCard", textsOfCards([]impl.Card{c}), []string{s})
		checkApart(t, "PutCard", []string{impl.PutCard(c)}, textsOfCards([]impl.Card{c}))
		at = next
	}
}

// The conventions: no argument is changed, not even what lies behind the end of a list.
func TestOdcChangesNothing(t *testing.T) {
	whole := append(reducedToOdc(greatList()), files(20)...)
	before := slices.Clone(whole)
	cards := cardsFor(whole)
	cardsBefore := slices.Clone(cards)
	for length := range len(whole) + 1 {
		impl.PutOdc(whole[:length])
		made := impl.CardsOf(whole[:length])
		list, _ := impl.EntriesOf(cards[:length])
		for i := range made {
			made[i] = impl.Card{Path: "changed"}
		}
		for i := range list {
			list[i] = impl.Entry{Path: "changed"}
		}
		_ = append(made, impl.Card{Path: "changed"})
		_ = append(list, impl.Entry{Path: "changed"})
		if !impl.SameList(whole, before) || !slices.Equal(cards, cardsBefore) {
			t.Fatalf("with %d entries the arguments are now %v and %v", length, whole, cards)
		}
	}
}

// The conventions: every function of the chapter answers whatever it is given.
func TestOdcAnswersAnything(t *testing.T) {
	random := rand.New(rand.NewSource(7))
	for range 3000 {
		text := make([]byte, random.Intn(300))
		random.Read(text)
		s := string(text)
		digits := strings.Map(func(r rune) rune { return '0' + r%8 }, s)
		for _, archive := range []string{s, "070707" + s, "070707" + digits, "070707000000" + digits, cardText(oneCard()) + s, s + trailerText, "070707" + digits + trailerText} {
			judgeOdc(t, archive)
			judgeCard(t, archive, random.Intn(400)-20)
		}
		n := func() int { return random.Int() >> random.Intn(64) * (random.Intn(5) - 1) }
		c := impl.Card{Ino: n(), Mode: n(), Uid: n(), Gid: n(), Count: n(), Time: n(), Path: s, Data: s}
		if got := impl.PutCard(c); got != "" && got != cardText(c) {
			t.Fatalf("PutCard(%+v) is %q", c, got)
		}
		judgeCards(t, []impl.Card{c, c})
		e := impl.Entry{Kind: random.Intn(6) - 1, Path: s, Link: s, Mode: n(), Uid: n(), Body: s}
		impl.OdcFits(e)
		impl.CardsOf([]impl.Entry{e, e})
		impl.PutOdc([]impl.Entry{e})
	}
	odd := []impl.Card{{}, {Ino: math.MinInt, Mode: math.MinInt}, {Ino: math.MaxInt, Mode: math.MaxInt, Count: math.MinInt}}
	var many []impl.Card
	for i := range 20000 {
		many = append(many, odd[i%3], impl.Card{Ino: i, Mode: 0o100644, Count: 1, Path: "f" + impl.DecText(i)})
	}
	checkNoEntries(t, "odd cards", odd...)
	if list, ok := impl.EntriesOf(many); ok || len(list) != 0 {
		t.Errorf("40000 cards are accepted as %d entries", len(list))
	}
	// All cards are gone through, though there are too many.
	text := strings.Repeat(cardText(oneCard()), 20000)
	checkNoOdc(t, "20000 cards", text+trailerText, impl.RdBad)
	checkNoOdc(t, "20000 cards without an end", text, impl.RdEnd)
	checkNoOdc(t, "20000 cards and a malformed one", text+with(trailerText, 75, "8"), impl.RdField)
	huge := strings.Repeat("x/", 1<<15)
	for _, e := range []impl.Entry{{}, {Path: huge}, {Kind: impl.KSym, Path: "a", Link: huge}, {Path: "a", User: huge, Group: huge, Body: huge}, {Kind: math.MaxInt, Path: "a"}} {
		if s, ok := impl.PutOdc([]impl.Entry{e}); impl.OdcFits(e) || len(impl.CardsOf([]impl.Entry{e})) != 0 || s != "" || ok {
			t.Errorf("%.100v is accepted", e)
		}
	}
	judgeOdc(t, huge)
	judgeOdc(t, strings.Repeat("\x00", 1<<20))
}
