package tests

import (
	"math"
	"math/rand"
	"strings"
	"testing"

	"loop.example/g00413/impl"
)

// Promise 8, an archive that GetNewc accepts is PutNewc of what it returned: GetNewc of what PutNewc did not write, and the conventions.

// judgeNewc fails unless GetNewc reads what the bytes tell, and accepts only what PutNewc writes. It returns the code.
func judgeNewc(t *testing.T, s string) int {
	t.Helper()
	crc := strings.HasPrefix(s, "070702")
	want, wantCode := readBy(s, func(s string, i int) (impl.Card, int, int) { return newAt(s, i, crc) }, newTrailer(crc))
	got, gotCrc, code := impl.GetNewc(s)
	if code != wantCode || gotCrc != (crc && code == impl.RdOk) || !impl.SameList(got, want) {
		t.Fatalf("%.2000q is read as %+v, %v, %d; want %+v, %d", s, got, gotCrc, code, want, wantCode)
	}
	if again, ok := impl.PutNewc(got, gotCrc); code == impl.RdOk && (!ok || again != s) {
		t.Fatalf("%.2000q is accepted as %+v", s, got)
	}
	return code
}

// newStarts returns where the cards of a list start in its archive, and where its trailer does.
func newStarts(t *testing.T, list []impl.Entry) []int {
	return newForms(t)[0].starts(list)
}

func TestNewcCutAtEveryLength(t *testing.T) {
	for _, f := range newForms(t) {
		f.checkCuts(t, judgeNewc, []impl.Entry{file("pp", "1"), file("ppp", "22"), file("pppp", "333"), file("ppppp", "4444")})
	}
}

func TestNewcGoesOn(t *testing.T) {
	for _, f := range newForms(t) {
		f.checkGoesOn(t, newCard(), f.name, newTrailer(false), newTrailer(true), f.text(newCard())[:111])
	}
}

func TestNewcTrailers(t *testing.T) {
	for crc := range newMagics {
		if newText(impl.Card{Count: 1, Path: trailer}, crc) != newTrailer(crc) {
			t.Fatal("the trailer is another one")
		}
	}
	for _, f := range newForms(t) {
		end := f.end()
		bad := []badEnd{{with(end, newSum, "00000001"), impl.RdSum}, {with(end, 75, "g"), impl.RdField}, {with(end, 0, "070707"), impl.RdBad}}
		for at := len(end) - 3; at < len(end); at++ {
			bad = append(bad, badEnd{with(end, at, "\n"), impl.RdBad})
		}
		f.checkTrailers(t, bad...)
	}
}

// Each code of a card ends the reading, wherever the card is and whatever is wrong with the ones ahead of it.
func TestBadCardInNewc(t *testing.T) {
	list := odcList()
	for crc := range newMagics {
		s := newcOf(list, crc)
		plain := newText(impl.Card{Ino: 9, Mode: 0o100644, Count: 1, Path: "zz", Data: "body!"}, crc)
		if len(plain) != 124 {
			t.Fatalf("the card has %d bytes", len(plain))
		}
		for _, start := range newStarts(t, list) {
			for _, c := range []struct {
				name, card string
				want       int
			}{
				{"another magic", with(plain, 0, "070707"), impl.RdBad},
				{"another magic and a malformed number", with(with(plain, 0, "x"), 20, "x"), impl.RdBad},
				{"a malformed number", with(plain, 12, "x"), impl.RdField},
				{"a capital digit", with(plain, newSum, "A"), impl.RdField},
				{"a first zero that is not 0", with(plain, newZeros+7, "1"), impl.RdField},
				{"a fourth zero that is not 0", with(plain, newPathSize-1, "1"), impl.RdField},
				{"a malformed number and no name", with(with(plain, 12, "x"), newPathSize, "00000000"), impl.RdField},
				{"much data", with(plain, newDataSize, "ffffffff"), impl.RdCut},
				{"much data and an empty name", with(with(plain, newDataSize, "ffffffff"), newPathSize, "00000000"), impl.RdCut},
				{"an empty name", with(plain, newPathSize, "00000000"), impl.RdBad},
				{"a name without NUL", with(plain, 112, "x"), impl.RdBad},
				{"a name with two NULs", with(plain, 110, "\x00"), impl.RdBad},
				{"a name that ends early", with(plain, newPathSize, "00000002"), impl.RdBad},
				{"padding of the name that is not NUL", with(plain, 113, "x"), impl.RdBad},
				{"the last byte of the name's padding", with(plain, 115, "x"), impl.RdBad},
				{"padding of the data that is not NUL", with(plain, 121, "x"), impl.RdBad},
				{"the last byte of the data's padding", with(plain, 123, "\x01"), impl.RdBad},
				{"padding and the last number", with(with(plain, 123, "\x01"), newSum, "00000007"), impl.RdBad},
				{"a wrong last number", with(plain, newSum, "00000007"), impl.RdSum},
			} {
				checkNoNewc(t, c.name, s[:start]+c.card+s[start:], c.want)
				checkNoNewc(t, c.name+", without an end", s[:start]+c.card, c.want)
				checkNoNewc(t, c.name+", behind a wrong card", plain+plain+s[:start]+c.card+s[start:], c.want)
				checkNoNewc(t, c.name+", ahead of another", s[:start]+c.card+"x"+plain, c.want)
				// Behind the trailer there are no cards.
				checkNoNewc(t, c.name+", behind the trailer", s+c.card, impl.RdEnd)
			}
			checkNoNewc(t, "half a card", s[:start]+plain[:len(plain)-1], impl.RdCut)
			checkNoNewc(t, "half a header", s[:start]+plain[:40], impl.RdCut)
			checkNoNewc(t, "a byte", s[:start]+"x", impl.RdCut)
			checkNoNewc(t, "a card that is complete, but not of the list", s[:start]+plain+s[start:], impl.RdBad)
			checkNoNewc(t, "only complete cards", s[:start]+plain, impl.RdEnd)
		}
	}
	checkNoNewc(t, "nothing", "", impl.RdEnd)
	checkNoNewc(t, "a short text", "not an archive", impl.RdCut)
	checkNoNewc(t, "a text", strings.Repeat("not an archive\n", 100), impl.RdBad)
	checkNoNewc(t, "an ustar archive", archiveOf(files(2)), impl.RdBad)
	checkNoNewc(t, "octal headers", odcOf(odcList()), impl.RdBad)
}

// The first bytes of an archive tell the magic of all its cards and of its trailer.
func TestNewcOfBothMagics(t *testing.T) {
	list := odcList()
	cards := append(cardsFor(list), impl.Card{Count: 1, Path: trailer})
	for chosen := range 1 << len(cards) {
		s := ""
		for i, c := range cards {
			s += newText(c, chosen>>i&1 == 1)
		}
		switch chosen {
		case 0:
			checkNewc(t, "an archive without checksums", s, list, false)
		case 1<<len(cards) - 1:
			checkNewc(t, "an archive with checksums", s, list, true)
		default:
			checkNoNewc(t, "an archive of both magics", s, impl.RdBad)
			judgeNewc(t, s)
		}
	}
	// Without a trailer, and with another magic behind it.
	for crc := range newMagics {
		checkNoNewc(t, "one card of each magic", newTexts(list[:1], crc)+newTexts(list[:1], !crc), impl.RdBad)
		checkNoNewc(t, "a trailer of the other magic", newTrailer(crc)+newTrailer(!crc), impl.RdEnd)
	}
	// Cards without data differ in nothing but the magic.
	empty := []impl.Entry{dir("d"), file("e", ""), hard("h", "e")}
	plain, summed := newcOf(empty, false), newcOf(empty, true)
	if strings.ReplaceAll(plain, "070701", "070702") != summed {
		t.Errorf("the archives are %q and %q", plain, summed)
	}
	for at := 0; at < len(plain); at += 4 {
		if strings.HasPrefix(plain[at:], "070701") {
			checkNoNewc(t, "another magic", with(plain, at, "070702"), impl.RdBad)
			checkNoNewc(t, "another magic", with(summed, at, "070701"), impl.RdBad)
		}
	}
}

// Cards that are well formed, but that PutNewc would not write, count after all else.
func TestNewcOfWrongCards(t *testing.T) {
	for _, f := range newForms(t) {
		end := f.end()
		f.checkWrongCards(t, badEnd{with(end, 20, "x"), impl.RdField}, badEnd{with(end, newSum, "00000001"), impl.RdSum})
	}
}

// Whichever byte is another one: what is accepted is the archive of its list. With checksums no byte of a body may be another one.
func TestAcceptedNewcIsWritten(t *testing.T) {
	codes := map[int]int{}
	for _, list := range [][]impl.Entry{nil, odcList(), {file("a", "x"), hard("h", "a")}} {
		for crc := range newMagics {
			s := newcOf(list, crc)
			for at := range s {
				for _, c := range "\x00\x01 /01247ah" {
					codes[judgeNewc(t, with(s, at, string(c)))]++
				}
				codes[judgeNewc(t, s[:at]+s[at+1:])]++
				codes[judgeNewc(t, s[:at]+"0"+s[at:])]++
				codes[judgeNewc(t, s[:at]+"\x00"+s[at:])]++
			}
		}
	}
	for code, least := range map[int]int{impl.RdOk: 500, impl.RdCut: 100, impl.RdField: 1000, impl.RdBad: 1000, impl.RdSum: 100, impl.RdEnd: 10} {
		if codes[code] < least {
			t.Errorf("the code %d occurs only %d times", code, codes[code])
		}
	}
	body := strings.Repeat("b", 2998)
	s := newcOf([]impl.Entry{file("a", body)}, true)
	at := strings.Index(s, body)
	for i := range body {
		checkNoNewc(t, "a changed body", with(s, at+i, "c"), impl.RdSum)
	}
	// The sum does not tell the order, so this is the archive of another list.
	checkNewc(t, "two changed bytes", with(with(s, at, "a"), at+7, "c"), []impl.Entry{file("a", "a"+body[:6]+"c"+body[8:])}, true)
}

// Archives of cards in any order: only those that PutNewc writes are accepted.
func TestNewcOfAnyCards(t *testing.T) {
	card := impl.Card{Ino: 1, Mode: 0o100644, Count: 1, Path: "a", Data: "hello"}
	forms := newForms(t)
	forms[0].checkAnyCards(t, judgeNewc, newTrailer(true), newText(card, true))
	forms[1].checkAnyCards(t, judgeNewc, newTrailer(false), newText(card, false))
}

// The conventions: a result shares no memory with an argument, nor do two parts of it.
func TestNewcResultsAreNewMemory(t *testing.T) {
	for _, f := range newForms(t) {
		f.checkNewMemory(t)
	}
}

// The conventions: no argument is changed, not even what lies behind the end of a list.
func TestNewcChangesNothing(t *testing.T) {
	for _, f := range newForms(t) {
		f.checkChangesNothing(t)
	}
}

// The conventions: every function of the chapter answers whatever it is given.
func TestNewcAnswersAnything(t *testing.T) {
	random := rand.New(rand.NewSource(8))
	for range 3000 {
		text := make([]byte, random.Intn(300))
		random.Read(text)
		s := string(text)
		digits := strings.Map(func(r rune) rune { return rune("0123456789abcdef"[r%16]) }, s)
		few := strings.Map(func(r rune) rune { return '0' + r%16/15 }, s)
		crc := random.Intn(2) == 1
		magic := newMagics[crc]
		for _, archive := range []string{s, magic + s, magic + digits, magic + few, magic + few[:min(len(few), 56)] + strings.Repeat("0", 32) + few, newText(newCard(), crc) + s, s + newTrailer(crc), magic + digits + newTrailer(crc)} {
			judgeNewc(t, archive)
			judgeNew(t, archive, random.Intn(400)-20, crc)
			judgeNew(t, archive, 0, crc)
		}
		for _, f := range newForms(t) {
			f.checkAnyArguments(t, random, s)
		}
	}
	for _, f := range newForms(t) {
		for _, c := range []impl.Card{{Ino: math.MinInt, Mode: math.MinInt}, {Ino: math.MaxInt, Mode: math.MaxInt, Count: math.MinInt}} {
			if got := f.putCard(c); got != "" {
				t.Errorf("PutNew(%+v) is %q", c, got)
			}
		}
		end := f.end()
		f.checkManyCards(t, newCard(), badEnd{with(end, 75, "g"), impl.RdField}, badEnd{with(end, newSum, "00000001"), impl.RdSum})
	}
	huge := strings.Repeat("x/", 1<<15)
	for _, e := range []impl.Entry{{}, {Path: huge}, {Kind: impl.KSym, Path: "a", Link: huge}, {Path: "a", User: huge, Group: huge, Body: huge}, {Kind: math.MaxInt, Path: "a"}, {Kind: -1, Path: "a"}} {
		if impl.NewFits(e) {
			t.Errorf("%.100v fits", e)
		}
		checkNoNewcOf(t, "an entry that does not fit", []impl.Entry{e})
	}
	judgeNewc(t, huge)
	judgeNewc(t, strings.Repeat("\x00", 1<<20))
}
