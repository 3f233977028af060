package tests

import (
	"fmt"
	"math"
	"os"
	"os/exec"
	"regexp"
	"strconv"
	"strings"
	"syscall"
	"testing"
	"unsafe"

	"loop.example/g00413/impl"
)

// Promise 7, a card is recovered from its bytes: PutCard and GetCard.

// cardText returns a card as it stands in an archive, in other words than the program does. Its numbers must fit.
func cardText(c impl.Card) string {
	return fmt.Sprintf("070707000000%06o%06o%06o%06o%06o000000%011o%06o%011o", c.Ino, c.Mode, c.Uid, c.Gid, c.Count, c.Time, len(c.Path)+1, len(c.Data)) +
		c.Path + "\x00" + c.Data
}

// odcField is a number in the header of a card.
type odcField struct {
	name     string
	at, size int
	set      func(c *impl.Card, n int)
}

func odcFields() []odcField {
	return []odcField{
		{"Ino", 12, 6, func(c *impl.Card, n int) { c.Ino = n }},
		{"Mode", 18, 6, func(c *impl.Card, n int) { c.Mode = n }},
		{"Uid", 24, 6, func(c *impl.Card, n int) { c.Uid = n }},
		{"Gid", 30, 6, func(c *impl.Card, n int) { c.Gid = n }},
		{"Count", 36, 6, func(c *impl.Card, n int) { c.Count = n }},
		{"Time", 48, 11, func(c *impl.Card, n int) { c.Time = n }},
	}
}

var octalDigits = regexp.MustCompile(`^[0-7]{70}$`)

// cardAt says what GetCard returns in other words than the program does.
func cardAt(s string, i int) (impl.Card, int, int) {
	none := impl.Card{}
	if i < 0 || i >= len(s) || len(s[i:]) < 76 {
		return none, i, impl.RdCut
	}
	head, rest := s[i:i+76], s[i+76:]
	if !strings.HasPrefix(head, "070707") {
		return none, i, impl.RdBad
	}
	if !octalDigits.MatchString(head[6:]) || head[6:12] != "000000" || head[42:48] != "000000" {
		return none, i, impl.RdField
	}
	number := func(from int, to int) int {
		n, _ := strconv.ParseInt(head[from:to], 8, 64)
		return int(n)
	}
	pathSize, dataSize := number(59, 65), number(65, 76)
	if len(rest) < pathSize+dataSize {
		return none, i, impl.RdCut
	}
	name := rest[:pathSize]
	if strings.Count(name, "\x00") != 1 || name[pathSize-1] != 0 {
		return none, i, impl.RdBad
	}
	c := impl.Card{Path: name[:pathSize-1], Data: rest[pathSize : pathSize+dataSize]}
	for _, f := range odcFields() {
		f.set(&c, number(f.at, f.at+f.size))
	}
	return c, i + 76 + pathSize + dataSize, impl.RdOk
}

// judgeCard fails unless GetCard tells what stands at the index. It returns the code.
func judgeCard(t *testing.T, s string, i int) int {
	t.Helper()
	want, wantNext, wantCode := cardAt(s, i)
	got, next, code := impl.GetCard(s, i)
	if got != want || next != wantNext || code != wantCode {
		t.Fatalf("GetCard(%.300q, %d) is %.300v, %d, %d; want %.300v, %d, %d", s, i, got, next, code, want, wantNext, wantCode)
	}
	if code == impl.RdOk && impl.PutCard(got) != s[i:next] {
		t.Fatalf("%+v is read, but not written as %q", got, s[i:next])
	}
	return code
}

// checkCard fails unless the card is written as this text and read from it, wherever it stands.
func checkCard(t *testing.T, name string, c impl.Card, want string) {
	t.Helper()
	if got := impl.PutCard(c); got != want {
		t.Errorf("PutCard of %s is %.200q, want %.200q", name, got, want)
	}
	for _, ahead := range []string{"", "x", "070707", strings.Repeat("0", 76), want} {
		for _, behind := range []string{"", "\x00", "070707", strings.Repeat("\xff", 100), want} {
			got, next, code := impl.GetCard(ahead+want+behind, len(ahead))
			if got != c || next != len(ahead)+len(want) || code != impl.RdOk {
				t.Errorf("GetCard of %s at %d is %.200v, %d, %d", name, len(ahead), got, next, code)
			}
		}
	}
}

// checkNoCard fails unless GetCard refuses s with the code and tells nothing else.
func checkNoCard(t *testing.T, name string, s string, i int, want int) {
	t.Helper()
	if c, next, code := impl.GetCard(s, i); code != want || c != (impl.Card{}) || next != i {
		t.Errorf("GetCard of %s at %d is %+v, %d, %d; want the code %d", name, i, c, next, code, want)
	}
}

// oneCard returns a card with another number in every field.
func oneCard() impl.Card {
	return impl.Card{Ino: 0o1234, Mode: 0o100644, Uid: 0o54321, Gid: 0o7, Count: 0o12, Time: 0o12345670123, Path: "a/b", Data: "some data"}
}

func TestCardLayout(t *testing.T) {
	text := impl.PutCard(oneCard())
	checkFields(t, text, []headField{
		{"magic", 0, 6, "070707"},
		{"the first zero", 6, 12, "000000"},
		{"Ino", 12, 18, "001234"},
		{"Mode", 18, 24, "100644"},
		{"Uid", 24, 30, "054321"},
		{"Gid", 30, 36, "000007"},
		{"Count", 36, 42, "000012"},
		{"the second zero", 42, 48, "000000"},
		{"Time", 48, 59, "12345670123"},
		{"length of Path", 59, 65, "000004"},
		{"length of Data", 65, 76, "00000000011"},
		{"Path", 76, 80, "a/b\x00"},
		{"Data", 80, 89, "some data"},
	})
	checkCard(t, "a card", oneCard(), text)
	zeros := strings.Repeat("0", 70)
	checkCard(t, "the zero Card", impl.Card{}, "070707"+zeros[:53]+"000001"+zeros[:11]+"\x00")
	checkCard(t, "the trailer", impl.Card{Count: 1, Path: "TRAILER!!!"}, "070707"+zeros[:30]+"000001"+zeros[:17]+"000013"+zeros[:11]+"TRAILER!!!\x00")
	checkCard(t, "a card without Path", impl.Card{Data: "x"}, "070707"+zeros[:53]+"000001"+"00000000001"+"\x00x")
}

// Each number is written up to the greatest value of its digits, and no negative one.
func TestCardNumbers(t *testing.T) {
	for _, base := range []impl.Card{{}, oneCard()} {
		for _, f := range odcFields() {
			greatest := 1<<(3*f.size) - 1
			for _, n := range []int{0, 1, 7, 8, 63, 64, 420, 0o77777, 0o100000, 0o377777, greatest / 8, greatest/8 + 1, greatest - 1, greatest} {
				c := base
				f.set(&c, n)
				digits := fmt.Sprintf("%0*o", f.size, n)
				checkCard(t, f.name+" "+digits, c, with(cardText(base), f.at, digits))
			}
			for _, n := range []int{-1, -7, -greatest, math.MinInt, math.MinInt + 1, greatest + 1, greatest + 2, 2 * greatest, 8 * greatest, 1 << 40, impl.MaxNum, impl.MaxNum + 1, math.MaxInt} {
				c := base
				f.set(&c, n)
				if got := impl.PutCard(c); got != "" {
					t.Errorf("PutCard with %s %d is %q", f.name, n, got)
				}
			}
		}
	}
	full := impl.Card{Path: "p", Data: "d"}
	for _, f := range odcFields() {
		f.set(&full, 1<<(3*f.size)-1)
	}
	checkCard(t, "the greatest numbers", full, "070707"+"000000"+strings.Repeat("7", 30)+"000000"+strings.Repeat("7", 11)+"000002"+"00000000001"+"p\x00d")
}

// Neither the Path nor the Data has to be that of an entry.
func TestCardTexts(t *testing.T) {
	texts := append(badPaths(), goodPaths()...)
	texts = append(texts, everyByte()[1:], "070707", "TRAILER!!!", cardText(oneCard())[:79], strings.Repeat("x", 3000), strings.Repeat("\xff", 10000))
	written := 0
	for _, text := range texts {
		c := oneCard()
		c.Data = text
		checkCard(t, "Data", c, cardText(c))
		c.Path, c.Data = text, ""
		if strings.Contains(text, "\x00") {
			continue
		}
		checkCard(t, "a Path", c, cardText(c))
		c.Data = text
		checkCard(t, "a Path and Data", c, cardText(c))
		written++
	}
	if written < 40 {
		t.Errorf("there are only %d Paths", written)
	}
	for _, length := range []int{0, 1, 7, 8, 63, 64, 511, 512, 2999, 3000, 3001, 32767, 32768, 262143, 262144, 1 << 20} {
		c := oneCard()
		c.Data = strings.Repeat("\x00", length)
		checkCard(t, "many NULs", c, cardText(c))
	}
}

// The length of the Path counts its NUL, and has six digits.
func TestCardPathLengths(t *testing.T) {
	for _, length := range []int{0, 1, 6, 7, 8, 199, 200, 201, 262141, 262142} {
		c := impl.Card{Path: strings.Repeat("p", length), Data: "data"}
		text := impl.PutCard(c)
		if text != cardText(c) || text[59:65] != fmt.Sprintf("%06o", length+1) {
			t.Errorf("PutCard of a Path of %d bytes is %.100q", length, text)
		}
		judgeCard(t, text, 0)
		judgeCard(t, text+"x", 0)
		judgeCard(t, text[:len(text)-1], 0)
	}
	for _, length := range []int{262143, 262144, 262145, 300000, 1 << 21, 1 << 24} {
		if got := impl.PutCard(impl.Card{Path: strings.Repeat("p", length)}); got != "" {
			t.Errorf("PutCard of a Path of %d bytes has %d bytes", length, len(got))
		}
	}
}

const greatestData = 8589934591 // the greatest number of eleven octal digits

// muchText returns a text that takes no memory: nothing is ever written there.
func muchText(t *testing.T, length int) string {
	t.Helper()
	data, err := syscall.Mmap(-1, 0, length, syscall.PROT_READ, syscall.MAP_ANON|syscall.MAP_PRIVATE)
	if err != nil {
		t.Fatal(err)
	}
	t.Cleanup(func() {
		if err := syscall.Munmap(data); err != nil {
			t.Error(err)
		}
	})
	return unsafe.String(&data[0], len(data))
}

// checkTaken fails unless put, whose result takes more memory than a text of that length, does not refuse the text.
// So another process tries it without that memory: it ends for want of it unless put refuses the text.
func checkTaken(t *testing.T, length int, put func(text string) string) {
	t.Helper()
	const refused = "the text is refused"
	if os.Getenv("TRY_WITHOUT_MEMORY") != "" {
		text := muchText(t, length)
		limit := uint64(length) / 4 * 7
		if err := syscall.Setrlimit(syscall.RLIMIT_AS, &syscall.Rlimit{Cur: limit, Max: limit}); err != nil {
			t.Fatal(err)
		}
		if put(text) == "" {
			t.Fatal(refused)
		}
		return
	}
	program, err := os.Executable()
	if err != nil {
		t.Fatal(err)
	}
	try := exec.Command(program, "-test.run=^"+strings.ReplaceAll(t.Name(), "/", "$/^")+"$")
	try.Env = append(os.Environ(), "TRY_WITHOUT_MEMORY=1")
	said, err := try.CombinedOutput()
	if err == nil || strings.Contains(string(said), refused) || !strings.Contains(string(said), "out of memory") {
		t.Errorf("the other process says %.1000s, %v", said, err)
	}
}

func TestCardWithTooMuchData(t *testing.T) {
	data := muchText(t, greatestData+10)
	for _, length := range []int{greatestData + 1, greatestData + 2, greatestData + 10} {
		if got := impl.PutCard(impl.Card{Path: "a", Data: data[:length]}); got != "" {
			t.Errorf("PutCard of %d bytes of Data has %d bytes", length, len(got))
		}
	}
}

func TestCardWithTheGreatestData(t *testing.T) {
	checkTaken(t, greatestData, func(data string) string { return impl.PutCard(impl.Card{Path: "a", Data: data}) })
}

// In an archive the greatest length is a number like any other, here one of Data that is not complete.
func TestCardWithTheGreatestLengths(t *testing.T) {
	card := cardText(impl.Card{Path: "a", Data: "x"})
	checkNoCard(t, "a card with the greatest length of Data", with(card, 65, "77777777777"), 0, impl.RdCut)
	checkNoCard(t, "a card with the greatest lengths", with(card, 59, "77777777777777777"), 0, impl.RdCut)
}

// PutCard writes a Path with a NUL, since all numbers fit, but it is not read again.
func TestCardPathWithANul(t *testing.T) {
	for _, path := range []string{"\x00", "a\x00", "\x00a", "a\x00b", "\x00\x00", "TRAILER!!!\x00", "a\x00b\x00c", strings.Repeat("\x00", 100)} {
		for _, data := range []string{"", "x", "\x00"} {
			c := impl.Card{Path: path, Data: data}
			if got := impl.PutCard(c); got != cardText(c) {
				t.Errorf("PutCard of the Path %q is %q", path, got)
			}
			checkNoCard(t, "a Path with a NUL", cardText(c), 0, impl.RdBad)
			checkNoCard(t, "a Path with a NUL, with bytes behind", cardText(c)+"x", 0, impl.RdBad)
		}
	}
}

func TestCardAtNoIndex(t *testing.T) {
	text := cardText(oneCard())
	for _, s := range []string{"", "x", text, text + text, text[:75]} {
		for _, i := range []int{-1, -2, -76, -len(text), math.MinInt, math.MinInt + 1, math.MinInt + 76, len(s), len(s) + 1, len(s) + 76, 1 << 40, math.MaxInt - 76, math.MaxInt - 1, math.MaxInt} {
			checkNoCard(t, "no index", s, i, impl.RdCut)
		}
	}
}

// Fewer than 76 bytes are cut, whatever they are.
func TestCardTooShort(t *testing.T) {
	text := cardText(impl.Card{})
	for length := range 76 {
		for _, s := range []string{text[:length], strings.Repeat("\xff", length), strings.Repeat("8", length), "x" + strings.Repeat("0", max(length-1, 0))} {
			if len(s) < 76 {
				checkNoCard(t, "a cut header", s, 0, impl.RdCut)
				checkNoCard(t, "a cut header behind a card", text+s, len(text), impl.RdCut)
			}
		}
	}
	for at := range len(text) {
		judgeCard(t, text, at)
	}
}

func TestCardMagic(t *testing.T) {
	text := cardText(oneCard())
	for at := range 6 {
		for c := range 256 {
			if text[at] != byte(c) {
				changed := with(text, at, string([]byte{byte(c)}))
				checkNoCard(t, "another magic", changed, 0, impl.RdBad)
				// It counts ahead of the numbers and the name.
				checkNoCard(t, "another magic and a malformed number", with(changed, 20, "x"), 0, impl.RdBad)
				checkNoCard(t, "another magic and no name", changed[:76], 0, impl.RdBad)
				checkNoCard(t, "another magic, cut", changed[:75], 0, impl.RdCut)
			}
		}
	}
	for _, magic := range []string{"070701", "070702", "\x00\x00\x00\x00\x00\x00", "      ", "70707 ", " 70707", "070770"} {
		checkNoCard(t, "the magic "+magic, with(text, 0, magic), 0, impl.RdBad)
	}
}

// A digit that is none, at every place of every number.
func TestCardWithMalformedNumbers(t *testing.T) {
	text := cardText(oneCard())
	for at := 6; at < 76; at++ {
		for c := range 256 {
			if c >= '0' && c <= '7' {
				continue
			}
			changed := with(text, at, string([]byte{byte(c)}))
			checkNoCard(t, "a malformed number", changed, 0, impl.RdField)
			checkNoCard(t, "a malformed number and no name", changed[:76], 0, impl.RdField)
		}
		checkNoCard(t, "a malformed number behind a card", text+with(text, at, "8"), len(text), impl.RdField)
		// It counts ahead of a name and data that are not complete or wrong.
		checkNoCard(t, "a malformed number and much data", with(with(text, 65, "77777777777"), at, "9"), 0, impl.RdField)
		checkNoCard(t, "a malformed number and an empty name", with(with(text, 59, "000000"), at, "a"), 0, impl.RdField)
		checkNoCard(t, "a malformed number and a name without NUL", with(with(text, 79, "x"), at, " "), 0, impl.RdField)
	}
	for _, f := range append(odcFields(), odcField{name: "length of Path", at: 59, size: 6}, odcField{name: "length of Data", at: 65, size: 11}) {
		for _, pad := range []string{" ", "\x00", "-", "+", "0x", "0o", "_", "8", "\x80"} {
			for _, field := range []string{pad + strings.Repeat("0", f.size), strings.Repeat("0", f.size-len(pad)) + pad, strings.Repeat(pad, f.size)} {
				checkNoCard(t, f.name+" "+field, with(text, f.at, field[:f.size]), 0, impl.RdField)
			}
		}
	}
}

// Each of the two zeros is 0.
func TestCardZeros(t *testing.T) {
	text := cardText(oneCard())
	for _, at := range []int{6, 42} {
		for i := range 6 {
			for _, digit := range "1234567" {
				changed := with(text, at+i, string(digit))
				checkNoCard(t, "a zero that is not 0", changed, 0, impl.RdField)
				checkNoCard(t, "a zero that is not 0 and no name", changed[:76], 0, impl.RdField)
				checkNoCard(t, "a zero that is not 0 and an empty name", with(changed, 59, "000000"), 0, impl.RdField)
				checkNoCard(t, "a zero that is not 0 and a name without NUL", with(changed, 79, "x"), 0, impl.RdField)
				checkNoCard(t, "a zero that is not 0 and another magic", with(changed, 0, "x"), 0, impl.RdBad)
				checkNoCard(t, "a zero that is not 0, cut", changed[:75], 0, impl.RdCut)
			}
		}
	}
	checkNoCard(t, "both zeros not 0", with(with(text, 6, "777777"), 42, "777777"), 0, impl.RdField)
}

// A card is cut at every length, and with every length of its name and data.
func TestCardCut(t *testing.T) {
	text := cardText(oneCard())
	for length := range len(text) {
		checkNoCard(t, "a cut card", text[:length], 0, impl.RdCut)
		checkNoCard(t, "a cut card behind another", text+text[:length], len(text), impl.RdCut)
	}
	// It counts ahead of what is wrong with the name.
	for _, name := range []string{"axbx", "a\x00b\x00", "\x00\x00\x00\x00", "\x00/bx"} {
		checkNoCard(t, "a wrong name and cut data", with(text, 76, name)[:len(text)-1], 0, impl.RdCut)
		checkNoCard(t, "a wrong name", with(text, 76, name), 0, impl.RdBad)
	}
	empty := with(text, 59, "000000")
	checkNoCard(t, "an empty name and cut data", empty[:84], 0, impl.RdCut)
	checkNoCard(t, "an empty name", empty[:85], 0, impl.RdBad)
	for pathSize := range 20 {
		for dataSize := range 20 {
			sized := with(text, 59, fmt.Sprintf("%06o%011o", pathSize, dataSize))
			want := impl.RdBad
			if pathSize+dataSize > 13 {
				want = impl.RdCut
			} else if pathSize == 4 {
				want = impl.RdOk
			}
			if got := judgeCard(t, sized, 0); got != want {
				t.Errorf("a name of %d bytes with %d bytes of data has the code %d, want %d", pathSize, dataSize, got, want)
			}
		}
	}
}

// A name ends with its only NUL.
func TestCardNames(t *testing.T) {
	for _, name := range all("a/\x00", 4) {
		sized := with(cardText(impl.Card{Path: "abc"}), 76, name)
		want := impl.RdBad
		if strings.Index(name, "\x00") == 3 {
			want = impl.RdOk
		}
		for _, behind := range []string{"", "\x00", "x"} {
			if got := judgeCard(t, sized+behind, 0); got != want {
				t.Errorf("a card with the name %q has the code %d, want %d", name, got, want)
			}
		}
	}
	head := cardText(impl.Card{})[:59]
	for _, c := range []struct {
		name, rest string
		want       int
	}{
		{"no bytes", "000000" + "00000000000", impl.RdBad},
		{"no bytes, with data", "000000" + "00000000001" + "x", impl.RdBad},
		{"no bytes, with a NUL as data", "000000" + "00000000001" + "\x00", impl.RdBad},
		{"no bytes, with a NUL behind", "000000" + "00000000000" + "\x00", impl.RdBad},
		{"one byte without its NUL", "000001" + "00000000000" + "a", impl.RdBad},
		{"one NUL", "000001" + "00000000000" + "\x00", impl.RdOk},
		{"two NULs", "000002" + "00000000000" + "\x00\x00", impl.RdBad},
		{"its NUL in front", "000002" + "00000000000" + "\x00a", impl.RdBad},
		{"its NUL in the data", "000001" + "00000000001" + "a\x00", impl.RdBad},
		{"no name where there is a byte for it", "000001" + "00000000000", impl.RdCut},
	} {
		if got := judgeCard(t, head+c.rest, 0); got != c.want {
			t.Errorf("a name of %s has the code %d, want %d", c.name, got, c.want)
		}
	}
}

// Whatever is accepted is the card that is read, whichever byte is another one, from every index.
func TestAcceptedCardIsWritten(t *testing.T) {
	text := cardText(impl.Card{Ino: 7, Mode: 0o40755, Count: 2, Path: "070707", Data: "070707" + strings.Repeat("0", 70)})
	codes := map[int]int{}
	for at := range text {
		for c := range 256 {
			changed := with(text, at, string([]byte{byte(c)}))
			codes[judgeCard(t, changed, 0)]++
		}
		for _, c := range "\x00 078" {
			changed := with(text, at, string(c)) + text
			for i := range changed {
				codes[judgeCard(t, changed, i)]++
			}
		}
	}
	for _, code := range []int{impl.RdOk, impl.RdCut, impl.RdField, impl.RdBad} {
		if codes[code] < 1000 {
			t.Errorf("the code %d occurs only %d times", code, codes[code])
		}
	}
}
