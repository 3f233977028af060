package tests

import (
	"math"
	"math/rand"
	"strings"
	"testing"

	"loop.example/g00413/impl"
)

// Promise 9, an archive that GetCpio accepts is PutCpio of what it returned: GetCpio of what PutCpio did not write, and the conventions.

// judgeCpio fails unless GetCpio reads what the bytes tell, and accepts only what PutCpio writes. It returns the code.
func judgeCpio(t *testing.T, s string) int {
	t.Helper()
	high := strings.HasPrefix(s, "\x71\xc7")
	want, wantCode := readBy(s, func(s string, i int) (impl.Card, int, int) { return binAt(s, i, high) }, binTrailer(high))
	got, gotHigh, code := impl.GetCpio(s)
	if code != wantCode || gotHigh != (high && code == impl.RdOk) || !impl.SameList(got, want) {
		t.Fatalf("%.2000q is read as %+v, %v, %d; want %+v, %d", s, got, gotHigh, code, want, wantCode)
	}
	if again, ok := impl.PutCpio(got, gotHigh); code == impl.RdOk && (!ok || again != s) {
		t.Fatalf("%.2000q is accepted as %+v", s, got)
	}
	return code
}

// evenAndOdd returns a list with names and data of odd and even length in all four combinations.
func evenAndOdd() []impl.Entry {
	return []impl.Entry{file("p", "22"), file("pp", "22"), file("ppp", "333"), file("pppp", "333"), file("ppppp", ""), file("pppppp", "")}
}

// binStarts returns where the cards of a list start in its archive, and where its trailer does.
func binStarts(t *testing.T, list []impl.Entry) []int {
	return binForms(t)[0].starts(list)
}

func TestCpioCutAtEveryLength(t *testing.T) {
	for _, f := range binForms(t) {
		f.checkCuts(t, judgeCpio, evenAndOdd())
	}
}

func TestCpioGoesOn(t *testing.T) {
	for _, f := range binForms(t) {
		f.checkGoesOn(t, binCard(), "\x71\xc7", "\xc7\x71", binTrailer(false), binTrailer(true))
	}
}

func TestCpioTrailers(t *testing.T) {
	for high := range binOrders {
		if binText(impl.Card{Count: 1, Path: trailer}, high) != binTrailer(high) {
			t.Fatal("the trailer is another one")
		}
	}
	for _, f := range binForms(t) {
		end := f.end()
		f.checkTrailers(t, badEnd{with(end, len(end)-1, "\n"), impl.RdBad}, badEnd{with(end, binFirstZero, "\x01"), impl.RdField}, badEnd{with(end, binLastZero+1, "\x01"), impl.RdField}, badEnd{with(end, 0, "xx"), impl.RdBad})
		// The Time has 32 bits.
		late := f.text(impl.Card{Count: 1, Path: trailer, Time: 4294967295})
		f.checkNotRead(t, "a trailer with a late Time", f.texts(cardsFor(odcList()))+late, impl.RdBad)
	}
}

// Each code of a card ends the reading, wherever the card is and whatever is wrong with the ones ahead of it.
func TestBadCardInCpio(t *testing.T) {
	list := odcList()
	for high := range binOrders {
		s := cpioOf(list, high)
		plain := binText(impl.Card{Ino: 9, Mode: 0o100644, Count: 1, Path: "zz", Data: "body!"}, high)
		if len(plain) != 36 {
			t.Fatalf("the card has %d bytes", len(plain))
		}
		noName := with(plain, binPathSize, "\x00\x00")
		much := with(plain, binDataSize, "\xff\xff\xff\xff")
		for _, start := range binStarts(t, list) {
			for _, c := range []struct {
				name, card string
				want       int
			}{
				{"no magic", with(plain, 0, "xx"), impl.RdBad},
				{"no magic and a zero that is not 0", with(with(plain, 0, "xx"), binFirstZero, "x"), impl.RdBad},
				{"no magic and much data", with(much, 0, "xx"), impl.RdBad},
				{"a first zero that is not 0", with(plain, binFirstZero, half(1, high)), impl.RdField},
				{"a last zero that is not 0", with(plain, binLastZero, half(256, high)), impl.RdField},
				{"a zero that is not 0 and no name", with(noName, binLastZero, "x"), impl.RdField},
				{"a zero that is not 0 and much data", with(much, binLastZero, "x"), impl.RdField},
				{"much data", much, impl.RdCut},
				{"much data and an empty name", with(much, binPathSize, "\x00\x00"), impl.RdCut},
				{"an empty name", noName, impl.RdBad},
				{"a name without NUL", with(plain, 28, "x"), impl.RdBad},
				{"a name with two NULs", with(plain, 26, "\x00"), impl.RdBad},
				{"a name that ends early", with(plain, binPathSize, half(2, high)), impl.RdBad},
				{"padding of the name that is not NUL", with(plain, 29, "x"), impl.RdBad},
				{"padding of the data that is not NUL", with(plain, 35, "\x01"), impl.RdBad},
			} {
				checkNoCpio(t, c.name, s[:start]+c.card+s[start:], c.want)
				checkNoCpio(t, c.name+", without an end", s[:start]+c.card, c.want)
				checkNoCpio(t, c.name+", behind a wrong card", plain+plain+s[:start]+c.card+s[start:], c.want)
				checkNoCpio(t, c.name+", ahead of another", s[:start]+c.card+"x"+plain, c.want)
				// Behind the trailer there are no cards.
				checkNoCpio(t, c.name+", behind the trailer", s+c.card, impl.RdEnd)
			}
			other := binText(impl.Card{Ino: 9, Mode: 0o100644, Count: 1, Path: "zz", Data: "body!"}, !high)
			checkNoCpio(t, "a card of the other byte order", plain+s[:start]+other+s[start:], impl.RdBad)
			checkNoCpio(t, "half a card", s[:start]+plain[:len(plain)-1], impl.RdCut)
			checkNoCpio(t, "half a header", s[:start]+plain[:20], impl.RdCut)
			checkNoCpio(t, "a byte", s[:start]+"x", impl.RdCut)
			checkNoCpio(t, "a card that is complete, but not of the list", s[:start]+plain+s[start:], impl.RdBad)
			checkNoCpio(t, "only complete cards", s[:start]+plain, impl.RdEnd)
		}
	}
	checkNoCpio(t, "nothing", "", impl.RdEnd)
	checkNoCpio(t, "a byte", "\x71", impl.RdCut)
	checkNoCpio(t, "a magic", "\x71\xc7", impl.RdCut)
	checkNoCpio(t, "the other magic", "\xc7\x71", impl.RdCut)
	checkNoCpio(t, "a short text", "not an archive", impl.RdCut)
	checkNoCpio(t, "a text", strings.Repeat("not an archive\n", 100), impl.RdBad)
	checkNoCpio(t, "an ustar archive", archiveOf(files(2)), impl.RdBad)
	checkNoCpio(t, "octal headers", odcOf(odcList()), impl.RdBad)
	checkNoCpio(t, "hexadecimal headers", newcOf(odcList(), true), impl.RdBad)
}

// The first bytes of an archive tell the byte order of all its cards and of its trailer.
func TestCpioOfBothOrders(t *testing.T) {
	list := odcList()
	cards := append(cardsFor(list), impl.Card{Count: 1, Path: trailer})
	for chosen := range 1 << len(cards) {
		s := ""
		for i, c := range cards {
			s += binText(c, chosen>>i&1 == 1)
		}
		switch chosen {
		case 0:
			checkCpio(t, "an archive of the low order", s, list, false)
		case 1<<len(cards) - 1:
			checkCpio(t, "an archive of the high order", s, list, true)
		default:
			checkNoCpio(t, "an archive of both byte orders", s, impl.RdBad)
			judgeCpio(t, s)
		}
	}
	for high := range binOrders {
		checkNoCpio(t, "one card of each byte order", binTexts(list[:1], high)+binTexts(list[:1], !high), impl.RdBad)
		checkNoCpio(t, "a trailer of each byte order", binTrailer(high)+binTrailer(!high), impl.RdEnd)
		s := cpioOf(list, high)
		for i, start := range binStarts(t, list) {
			changed := with(s, start, half(binMagic, !high))
			judgeCpio(t, changed)
			if i > 0 {
				checkNoCpio(t, "one magic of the other byte order", changed, impl.RdBad)
			}
		}
		// With the magic of the other byte order the length of its Path reads as 2816.
		checkNoCpio(t, "a trailer with the magic of the other byte order", with(binTrailer(high), 0, half(binMagic, !high)), impl.RdCut)
	}
}

// Cards that are well formed, but that PutCpio would not write, count after all else.
func TestCpioOfWrongCards(t *testing.T) {
	for _, f := range binForms(t) {
		end := f.end()
		f.checkWrongCards(t, badEnd{with(end, binLastZero, "x"), impl.RdField}, badEnd{with(end, binDataSize, "\x01"), impl.RdCut})
	}
}

// Whichever byte is another one: what is accepted is the archive of its list.
func TestAcceptedCpioIsWritten(t *testing.T) {
	codes := map[int]int{}
	for _, list := range [][]impl.Entry{nil, odcList(), evenAndOdd(), {file("a", "x"), hard("h", "a")}} {
		for high := range binOrders {
			s := cpioOf(list, high)
			for at := range s {
				for _, c := range []byte("\x00\x01\x02\x07\x71\xc7\x80\xff a/") {
					codes[judgeCpio(t, with(s, at, string([]byte{c})))]++
				}
				codes[judgeCpio(t, s[:at]+s[at+1:])]++
				codes[judgeCpio(t, s[:at]+"0"+s[at:])]++
				codes[judgeCpio(t, s[:at]+"\x00"+s[at:])]++
			}
		}
	}
	for code, least := range map[int]int{impl.RdOk: 1000, impl.RdCut: 1000, impl.RdField: 1000, impl.RdBad: 1000, impl.RdEnd: 10} {
		if codes[code] < least {
			t.Errorf("the code %d occurs only %d times", code, codes[code])
		}
	}
	if codes[impl.RdSum] > 0 {
		t.Errorf("there are no checksums, but %d codes of them", codes[impl.RdSum])
	}
}

// Archives of cards in any order: only those that PutCpio writes are accepted.
func TestCpioOfAnyCards(t *testing.T) {
	card := impl.Card{Ino: 1, Mode: 0o100644, Count: 1, Path: "a", Data: "hello"}
	forms := binForms(t)
	forms[0].checkAnyCards(t, judgeCpio, binTrailer(true), binText(card, true))
	forms[1].checkAnyCards(t, judgeCpio, binTrailer(false), binText(card, false))
}

// The conventions: a result shares no memory with an argument, nor do two parts of it.
func TestCpioResultsAreNewMemory(t *testing.T) {
	for _, f := range binForms(t) {
		f.checkNewMemory(t)
	}
}

// The conventions: no argument is changed, not even what lies behind the end of a list.
func TestCpioChangesNothing(t *testing.T) {
	for _, f := range binForms(t) {
		f.checkChangesNothing(t)
	}
}

// The conventions: every function of the chapter answers whatever it is given.
func TestCpioAnswersAnything(t *testing.T) {
	random := rand.New(rand.NewSource(9))
	for range 3000 {
		text := make([]byte, random.Intn(100))
		random.Read(text)
		s := string(text)
		few := strings.Map(func(r rune) rune { return r % 16 / 15 }, s)
		high := random.Intn(2) == 1
		head := half(binMagic, high) + "\x00\x00"
		plain := head + s[:min(len(s), 10)] + "\x00\x00" + few
		for _, archive := range []string{s, head[:2] + s, head + s, head + few, plain, binText(binCard(), high) + s, s + binTrailer(high), plain + binTrailer(high)} {
			judgeCpio(t, archive)
			judgeBin(t, archive, random.Intn(200)-20, high)
			judgeBin(t, archive, 0, high)
		}
		for _, f := range binForms(t) {
			f.checkAnyArguments(t, random, s)
		}
	}
	for _, f := range binForms(t) {
		f.checkManyCards(t, binCard(), badEnd{with(f.end(), binLastZero, "g"), impl.RdField})
	}
	huge := strings.Repeat("x/", 1<<15)
	for _, e := range []impl.Entry{{}, {Path: huge}, {Kind: impl.KSym, Path: "a", Link: huge}, {Path: "a", User: huge, Group: huge, Body: huge}, {Kind: math.MaxInt, Path: "a"}, {Kind: -1, Path: "a"}} {
		if impl.BinFits(e) {
			t.Errorf("%.100v fits", e)
		}
		checkNoCpioOf(t, "an entry that does not fit", []impl.Entry{e})
	}
	judgeCpio(t, huge)
	judgeCpio(t, strings.Repeat("\x00", 1<<20))
	judgeCpio(t, strings.Repeat("\x71\xc7", 1<<19))
}
