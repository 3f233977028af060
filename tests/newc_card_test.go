package tests

import (
	"fmt"
	"math"
	"regexp"
	"strconv"
	"strings"
	"testing"

	"loop.example/g00413/impl"
)

// Promise 8, a card is recovered from its bytes, with or without a checksum: PutNew and GetNew.

// newMagics tells by crc how a card begins.
var newMagics = map[bool]string{false: "070701", true: "070702"}

// filled returns s with NULs up to a multiple of 4 bytes.
func filled(s string) string {
	for len(s)%4 != 0 {
		s += "\x00"
	}
	return s
}

// newText returns a card as it stands in an archive, in other words than the program does. Its numbers must fit.
func newText(c impl.Card, crc bool) string {
	sum := 0
	for _, b := range []byte(c.Data) {
		sum += map[bool]int{true: int(b)}[crc]
	}
	head := fmt.Sprintf("%s%08x%08x%08x%08x%08x%08x%08x%032d%08x%08x", newMagics[crc], c.Ino, c.Mode, c.Uid, c.Gid, c.Count, c.Time, len(c.Data), 0, len(c.Path)+1, sum)
	return filled(head+c.Path+"\x00") + filled(c.Data)
}

// newField is a number in the header of a card.
type newField struct {
	name string
	at   int
	set  func(c *impl.Card, n int)
}

func newFields() []newField {
	return []newField{
		{"Ino", 6, func(c *impl.Card, n int) { c.Ino = n }},
		{"Mode", 14, func(c *impl.Card, n int) { c.Mode = n }},
		{"Uid", 22, func(c *impl.Card, n int) { c.Uid = n }},
		{"Gid", 30, func(c *impl.Card, n int) { c.Gid = n }},
		{"Count", 38, func(c *impl.Card, n int) { c.Count = n }},
		{"Time", 46, func(c *impl.Card, n int) { c.Time = n }},
	}
}

// Where the other numbers of a header stand.
const (
	newDataSize = 54
	newZeros    = 62
	newPathSize = 94
	newSum      = 102
	newHeadEnd  = 110
)

var hexDigits = regexp.MustCompile(`^[0-9a-f]{104}$`)

// newAt says what GetNew returns in other words than the program does.
func newAt(s string, i int, crc bool) (impl.Card, int, int) {
	none := impl.Card{}
	if i < 0 || i >= len(s) || len(s[i:]) < newHeadEnd {
		return none, i, impl.RdCut
	}
	text := s[i:]
	if !strings.HasPrefix(text, newMagics[crc]) {
		return none, i, impl.RdBad
	}
	if !hexDigits.MatchString(text[6:newHeadEnd]) || text[newZeros:newPathSize] != strings.Repeat("0", 32) {
		return none, i, impl.RdField
	}
	number := func(at int) int {
		n, _ := strconv.ParseInt(text[at:at+8], 16, 64)
		return int(n)
	}
	nameEnd := newHeadEnd + number(newPathSize)
	dataStart := (nameEnd + 3) / 4 * 4
	dataEnd := dataStart + number(newDataSize)
	end := (dataEnd + 3) / 4 * 4
	if len(text) < end {
		return none, i, impl.RdCut
	}
	name := text[newHeadEnd:nameEnd]
	if strings.Count(name, "\x00") != 1 || !strings.HasSuffix(name, "\x00") || strings.Trim(text[nameEnd:dataStart]+text[dataEnd:end], "\x00") != "" {
		return none, i, impl.RdBad
	}
	c := impl.Card{Path: strings.TrimSuffix(name, "\x00"), Data: text[dataStart:dataEnd]}
	for _, f := range newFields() {
		f.set(&c, number(f.at))
	}
	if text[newSum:newHeadEnd] != newText(c, crc)[newSum:newHeadEnd] {
		return none, i, impl.RdSum
	}
	return c, i + end, impl.RdOk
}

// judgeNew fails unless GetNew tells what stands at the index. It returns the code.
func judgeNew(t *testing.T, s string, i int, crc bool) int {
	t.Helper()
	want, wantNext, wantCode := newAt(s, i, crc)
	got, next, code := impl.GetNew(s, i, crc)
	if got != want || next != wantNext || code != wantCode {
		t.Fatalf("GetNew(%.300q, %d, %v) is %.300v, %d, %d; want %.300v, %d, %d", s, i, crc, got, next, code, want, wantNext, wantCode)
	}
	if code == impl.RdOk && impl.PutNew(got, crc) != s[i:next] {
		t.Fatalf("%+v is read, but not written as %q", got, s[i:next])
	}
	return code
}

// checkNew fails unless the card is written as this text and read from it, wherever it stands.
func checkNew(t *testing.T, name string, c impl.Card, crc bool, want string) {
	t.Helper()
	if got := impl.PutNew(c, crc); got != want {
		t.Errorf("PutNew of %s, %v, is %.200q, want %.200q", name, crc, got, want)
	}
	for _, ahead := range []string{"", "x", "\x00\x00", "070", newMagics[crc], strings.Repeat("0", 110), want, want + "x"} {
		for _, behind := range []string{"", "\x00", newMagics[crc], strings.Repeat("\xff", 100), want} {
			got, next, code := impl.GetNew(ahead+want+behind, len(ahead), crc)
			if got != c || next != len(ahead)+len(want) || code != impl.RdOk {
				t.Errorf("GetNew of %s, %v, at %d is %.200v, %d, %d", name, crc, len(ahead), got, next, code)
			}
		}
	}
}

// checkBothNew does so with and without a checksum.
func checkBothNew(t *testing.T, name string, c impl.Card) {
	t.Helper()
	for crc := range newMagics {
		checkNew(t, name, c, crc, newText(c, crc))
	}
}

// checkNoNew fails unless GetNew refuses s with the code and tells nothing else.
func checkNoNew(t *testing.T, name string, s string, i int, crc bool, want int) {
	t.Helper()
	if c, next, code := impl.GetNew(s, i, crc); code != want || c != (impl.Card{}) || next != i {
		t.Errorf("GetNew of %s, %v, at %d is %.200v, %d, %d; want the code %d", name, crc, i, c, next, code, want)
	}
}

// newCard returns a card with another number in every field, with 3 bytes of padding behind its name and 2 behind its data.
func newCard() impl.Card {
	return impl.Card{Ino: 0x1234, Mode: 0x81a4, Uid: 0xabcdef, Gid: 7, Count: 0x12, Time: 0x6543210f, Path: "a/b/c/d.ef", Data: "here is da"}
}

func TestNewLayout(t *testing.T) {
	for crc, magic := range newMagics {
		text := impl.PutNew(newCard(), crc)
		checkFields(t, text, []headField{
			{"magic", 0, 6, magic},
			{"Ino", 6, 14, "00001234"},
			{"Mode", 14, 22, "000081a4"},
			{"Uid", 22, 30, "00abcdef"},
			{"Gid", 30, 38, "00000007"},
			{"Count", 38, 46, "00000012"},
			{"Time", 46, 54, "6543210f"},
			{"length of Data", 54, 62, "0000000a"},
			{"the first zero", 62, 70, "00000000"},
			{"the second zero", 70, 78, "00000000"},
			{"the third zero", 78, 86, "00000000"},
			{"the fourth zero", 86, 94, "00000000"},
			{"length of Path", 94, 102, "0000000b"},
			{"sum of Data", 102, 110, map[bool]string{false: "00000000", true: "00000385"}[crc]},
			{"Path", 110, 121, "a/b/c/d.ef\x00"},
			{"padding of Path", 121, 124, "\x00\x00\x00"},
			{"Data", 124, 134, "here is da"},
			{"padding of Data", 134, 136, "\x00\x00"},
		})
		checkNew(t, "a card", newCard(), crc, text)
		zeros := strings.Repeat("0", 104)
		checkNew(t, "the zero Card", impl.Card{}, crc, magic+zeros[:88]+"00000001"+"00000000"+"\x00\x00")
		checkNew(t, "the trailer", impl.Card{Count: 1, Path: "TRAILER!!!"}, crc, magic+zeros[:32]+"00000001"+zeros[:48]+"0000000b"+"00000000"+"TRAILER!!!\x00\x00\x00\x00")
		checkNew(t, "a card without Path", impl.Card{Data: "\x01"}, crc, magic+zeros[:48]+"00000001"+zeros[:32]+"00000001"+map[bool]string{false: "00000000", true: "00000001"}[crc]+"\x00\x00"+"\x01\x00\x00\x00")
	}
}

// Each number is written up to the greatest value of its digits, and no negative one.
func TestNewNumbers(t *testing.T) {
	const greatest = 4294967295
	for crc := range newMagics {
		for _, base := range []impl.Card{{}, newCard()} {
			for _, f := range newFields() {
				for _, n := range []int{0, 1, 9, 10, 15, 16, 255, 256, 33188, 65535, 65536, 262144, 0x7fffffff, 0x80000000, 0xabcdef01, greatest - 1, greatest} {
					c := base
					f.set(&c, n)
					checkNew(t, f.name+" "+impl.DecText(n), c, crc, with(newText(base, crc), f.at, fmt.Sprintf("%08x", n)))
				}
				for _, n := range []int{-1, -2, -16, -greatest, -greatest - 1, math.MinInt, math.MinInt + 1, greatest + 1, greatest + 2, 2 * greatest, 1 << 33, 1 << 40, 1<<63 - 1<<32, impl.MaxNum, impl.MaxNum + 1, math.MaxInt} {
					c := base
					f.set(&c, n)
					if got := impl.PutNew(c, crc); got != "" {
						t.Errorf("PutNew with %s %d, %v, is %q", f.name, n, crc, got)
					}
				}
			}
		}
		full := impl.Card{Path: "p", Data: "d"}
		for _, f := range newFields() {
			f.set(&full, greatest)
		}
		checkNew(t, "the greatest numbers", full, crc, newMagics[crc]+strings.Repeat("f", 48)+"00000001"+strings.Repeat("0", 32)+"00000002"+map[bool]string{false: "00000000", true: "00000064"}[crc]+"p\x00d\x00\x00\x00")
	}
}

// Neither the Path nor the Data has to be that of an entry.
func TestNewTexts(t *testing.T) {
	texts := append(badPaths(), goodPaths()...)
	texts = append(texts, everyByte()[1:], "070701", "070702", "TRAILER!!!", newText(newCard(), true)[:110], strings.Repeat("x", 3000), strings.Repeat("\xff", 10000))
	written := 0
	for _, text := range texts {
		c := newCard()
		c.Data = text
		checkBothNew(t, "Data", c)
		c.Path, c.Data = text, ""
		if strings.Contains(text, "\x00") {
			continue
		}
		checkBothNew(t, "a Path", c)
		c.Data = text
		checkBothNew(t, "a Path and Data", c)
		written++
	}
	if written < 40 {
		t.Errorf("there are only %d Paths", written)
	}
	for _, length := range []int{0, 1, 2, 3, 4, 15, 16, 17, 255, 256, 2999, 3000, 3001, 65535, 65536, 1 << 20} {
		c := newCard()
		c.Data = strings.Repeat("\x00", length)
		checkBothNew(t, "many NULs", c)
		c.Path = strings.Repeat("p", length)
		checkBothNew(t, "a long Path", c)
	}
}

// Names and data of every length modulo 4: what stands behind them are NULs, as many as are needed, and nothing else is accepted there.
func TestNewPadding(t *testing.T) {
	const letters = "abcdefghijklm"
	paddings := map[[2]int]int{}
	for pathSize := range len(letters) {
		for dataSize := range len(letters) {
			c := newCard()
			c.Path, c.Data = letters[:pathSize], letters[:dataSize]
			checkBothNew(t, "a card with padding", c)
			// In numbers: 110 and 1 more leave 1 byte to the next multiple of 4.
			namePadding := []int{1, 0, 3, 2}[pathSize%4]
			dataPadding := []int{0, 3, 2, 1}[dataSize%4]
			paddings[[2]int{namePadding, dataPadding}]++
			nameEnd := 110 + pathSize + 1
			dataEnd := nameEnd + namePadding + dataSize
			for crc := range newMagics {
				text := impl.PutNew(c, crc)
				if len(text) != dataEnd+dataPadding || text[nameEnd:nameEnd+namePadding] != strings.Repeat("\x00", namePadding) || text[dataEnd:] != strings.Repeat("\x00", dataPadding) {
					t.Fatalf("a name of %d and data of %d bytes are written as %q", pathSize, dataSize, text)
				}
				for i := range namePadding {
					checkWrongPadding(t, text, nameEnd+i, crc)
				}
				for i := range dataPadding {
					checkWrongPadding(t, text, dataEnd+i, crc)
				}
			}
		}
	}
	if len(paddings) != 16 {
		t.Errorf("only these paddings occur: %v", paddings)
	}
}

// checkWrongPadding fails unless each byte other than a NUL is refused at this place of a card, by a code that counts as the document states.
func checkWrongPadding(t *testing.T, text string, at int, crc bool) {
	t.Helper()
	for b := 1; b < 256; b++ {
		wrong := with(text, at, string([]byte{byte(b)}))
		for _, s := range []string{wrong, wrong + text, wrong + "\x00"} {
			checkNoNew(t, "a padding byte that is not NUL", s, 0, crc, impl.RdBad)
		}
	}
	for _, b := range []string{"0", " ", "\x01", "\x80", "\xff"} {
		wrong := with(text, at, b)
		checkNoNew(t, "wrong padding behind a card", text+wrong, len(text), crc, impl.RdBad)
		checkNoNew(t, "wrong padding at an odd index", "x"+wrong, 1, crc, impl.RdBad)
		checkNoNew(t, "wrong padding and a wrong last number", with(wrong, newSum, "ffffffff"), 0, crc, impl.RdBad)
		checkNoNew(t, "wrong padding, cut", wrong[:len(wrong)-1], 0, crc, impl.RdCut)
		checkNoNew(t, "wrong padding and a malformed number", with(wrong, 20, "x"), 0, crc, impl.RdField)
		checkNoNew(t, "wrong padding and another magic", with(wrong, 0, "x"), 0, crc, impl.RdBad)
	}
}

const greatestNew = 4294967295 // the greatest number of eight hexadecimal digits

func TestNewWithTooLongTexts(t *testing.T) {
	much := muchText(t, greatestNew+10)
	for _, length := range []int{greatestNew + 1, greatestNew + 2, greatestNew + 10} {
		if got := impl.PutNew(impl.Card{Path: "a", Data: much[:length]}, false); got != "" {
			t.Errorf("PutNew of %d bytes of Data has %d bytes", length, len(got))
		}
		for crc := range newMagics {
			if got := impl.PutNew(impl.Card{Path: much[:length-1]}, crc); got != "" {
				t.Errorf("PutNew of a Path of %d bytes, %v, has %d bytes", length-1, crc, len(got))
			}
		}
	}
	if got := impl.PutNew(impl.Card{Path: "a", Data: much[:greatestNew+1]}, true); got != "" {
		t.Errorf("PutNew of %d bytes of Data with a checksum has %d bytes", greatestNew+1, len(got))
	}
}

func TestNewWithTheGreatestTexts(t *testing.T) {
	for crc, magic := range newMagics {
		t.Run("Data"+magic, func(t *testing.T) {
			checkTaken(t, greatestNew, func(data string) string { return impl.PutNew(impl.Card{Path: "a", Data: data}, crc) })
		})
		t.Run("Path"+magic, func(t *testing.T) {
			checkTaken(t, greatestNew-1, func(path string) string { return impl.PutNew(impl.Card{Path: path}, crc) })
		})
	}
}

// In an archive the greatest lengths are numbers like any others, here of texts that are not complete.
func TestNewWithTheGreatestLengths(t *testing.T) {
	for crc := range newMagics {
		text := newText(newCard(), crc)
		for _, length := range []string{"ffffffff", "fffffffe", "80000000", "7fffffff"} {
			long := with(text, newDataSize, length)
			checkNoNew(t, "the length of Data "+length, long, 0, crc, impl.RdCut)
			checkNoNew(t, "the length of Path "+length, with(text, newPathSize, length), 0, crc, impl.RdCut)
			checkNoNew(t, "both lengths "+length, with(long, newPathSize, length), 0, crc, impl.RdCut)
		}
	}
}

// The checksum counts every byte of the Data, and nothing else. Without checksums the last number is 0.
func TestNewSums(t *testing.T) {
	for _, c := range []struct {
		data string
		sum  string
	}{
		{"", "00000000"},
		{"\x00", "00000000"},
		{strings.Repeat("\x00", 3000), "00000000"},
		{"\x01", "00000001"},
		{"\xff", "000000ff"},
		{"\x00\x10\x00", "00000010"},
		{"hello", "00000214"},
		{"olleh", "00000214"},
		{"hello\x00", "00000214"},
		{everyByte(), "00007f80"},
		{strings.Repeat("\xff", 257), "0000ffff"},
		{strings.Repeat("\xff", 258), "000100fe"},
		{strings.Repeat("\xff", 3000), "000bac48"},
	} {
		card := newCard()
		card.Data = c.data
		plain, summed := impl.PutNew(card, false), impl.PutNew(card, true)
		if summed[newSum:newHeadEnd] != c.sum || plain[newSum:newHeadEnd] != "00000000" {
			t.Errorf("the last numbers of %.20q are %s and %s", c.data, summed[newSum:newHeadEnd], plain[newSum:newHeadEnd])
		}
		if summed != with(with(plain, 0, "070702"), newSum, c.sum) {
			t.Errorf("with a checksum %q is written as %q", plain, summed)
		}
		checkNew(t, "a card without a checksum", card, false, plain)
		checkNew(t, "a card with a checksum", card, true, summed)
	}
}

// greatestSum is Data with the greatest checksum that fits: that many bytes of 255.
func greatestSum() string {
	return strings.Repeat("\xff", 16843009)
}

// A sum of more than eight digits does not fit, and no number is accepted for it. Without checksums it does not count.
func TestNewSumsOfMuchData(t *testing.T) {
	data := greatestSum()
	check := func(name string, c impl.Card, crc bool, sum string) {
		t.Helper()
		text := impl.PutNew(c, crc)
		if len(text) < newHeadEnd || text[newSum:newHeadEnd] != sum {
			t.Fatalf("%s, %v, is written as %.120q", name, crc, text)
		}
		if got, next, code := impl.GetNew(text, 0, crc); got != c || next != len(text) || code != impl.RdOk {
			t.Errorf("GetNew of %s, %v, is %.100v, %d, %d", name, crc, got, next, code)
		}
	}
	card := impl.Card{Path: "a", Data: data}
	check("the greatest sum", card, true, "ffffffff")
	check("the greatest sum", card, false, "00000000")
	checkNoNew(t, "another sum than the greatest", with(impl.PutNew(card, true), newSum, "fffffffe"), 0, true, impl.RdSum)
	for _, more := range []string{"\x01", "\x02", "\xff", "\x00\x00\x01", "\xff\xff"} {
		beyond := impl.Card{Path: "a", Data: data + more}
		if got := impl.PutNew(beyond, true); got != "" {
			t.Errorf("PutNew of a sum that does not fit has %d bytes", len(got))
		}
		check("a sum that does not fit", beyond, false, "00000000")
		summed := with(impl.PutNew(beyond, false), 0, "070702")
		// The sum modulo 4294967296 is no checksum either.
		for _, sum := range []string{"00000000", "00000001", fmt.Sprintf("%08x", impl.SumOf(more)-1), fmt.Sprintf("%08x", impl.SumOf(more)), "ffffffff"} {
			checkNoNew(t, "a sum that does not fit", with(summed, newSum, sum), 0, true, impl.RdSum)
		}
	}
	check("the greatest sum and a NUL", impl.Card{Path: "a", Data: data + "\x00"}, true, "ffffffff")
}

func TestNewWithAnotherLastNumber(t *testing.T) {
	for _, data := range []string{"", "\x00", "\x00\x00\x00\x00\x00", "\x01", "hello", everyByte(), strings.Repeat("\xff", 3000)} {
		c := newCard()
		c.Data = data
		for crc := range newMagics {
			text := newText(c, crc)
			own, _ := strconv.ParseInt(text[newSum:newHeadEnd], 16, 64)
			for _, n := range []int{0, 1, 2, 255, impl.SumOf(data), int(own) + 1, int(own) - 1, int(own) + 256, int(own) + 65536, impl.SumOf(c.Path), greatestNew - 1, greatestNew} {
				if n < 0 {
					continue
				}
				want := impl.RdSum
				if n == int(own) {
					want = impl.RdOk
				}
				changed := with(text, newSum, fmt.Sprintf("%08x", n))
				for _, ahead := range []string{"", "x", text} {
					if code := judgeNew(t, ahead+changed+"x", len(ahead), crc); code != want {
						t.Errorf("the last number %d for %.20q, %v, has the code %d, want %d", n, data, crc, code, want)
					}
				}
				checkNoNew(t, "another last number, cut", changed[:len(changed)-1], 0, crc, impl.RdCut)
				checkNoNew(t, "another last number and a name without NUL", with(changed, 120, "x"), 0, crc, impl.RdBad)
			}
			for at := newSum; at < newHeadEnd; at++ {
				for _, digit := range "0123456789abcdef" {
					judgeNew(t, with(text, at, string(digit)), 0, crc)
				}
				for _, other := range "ABFGg/: \x00" {
					checkNoNew(t, "a malformed last number", with(text, at, string(other)), 0, crc, impl.RdField)
				}
			}
			// The byte of the Data may be another one where nothing is summed.
			for at := range data {
				changed := with(text, len(text)-len(filled(data))+at, "\x7f")
				want := map[bool]int{false: impl.RdOk, true: impl.RdSum}[crc]
				if data[at] == 0x7f {
					want = impl.RdOk
				}
				if code := judgeNew(t, changed, 0, crc); code != want {
					t.Errorf("other Data, %v, has the code %d, want %d", crc, code, want)
				}
			}
		}
	}
}

// PutNew writes a Path with a NUL, since all numbers fit, but it is not read again.
func TestNewPathWithANul(t *testing.T) {
	for _, path := range []string{"\x00", "a\x00", "\x00a", "a\x00b", "\x00\x00", "TRAILER!!!\x00", "a\x00b\x00c", strings.Repeat("\x00", 100)} {
		for _, data := range []string{"", "x", "\x00"} {
			for crc := range newMagics {
				c := impl.Card{Path: path, Data: data}
				text := newText(c, crc)
				if got := impl.PutNew(c, crc); got != text {
					t.Errorf("PutNew of the Path %q is %q", path, got)
				}
				checkNoNew(t, "a Path with a NUL", text, 0, crc, impl.RdBad)
				checkNoNew(t, "a Path with a NUL, with bytes behind", text+"x", 0, crc, impl.RdBad)
				checkNoNew(t, "a Path with a NUL and a wrong last number", with(text, newSum, "ffffffff"), 0, crc, impl.RdBad)
			}
		}
	}
}

func TestNewAtNoIndex(t *testing.T) {
	for crc := range newMagics {
		text := newText(newCard(), crc)
		for _, s := range []string{"", "x", text, text + text, text[:109]} {
			for _, i := range []int{-1, -2, -4, -110, -len(text), math.MinInt, math.MinInt + 1, math.MinInt + 110, len(s), len(s) + 1, len(s) + 110, 1 << 40, math.MaxInt - 110, math.MaxInt - 1, math.MaxInt} {
				checkNoNew(t, "no index", s, i, crc, impl.RdCut)
			}
		}
	}
}

// Fewer than 110 bytes are cut, whatever they are.
func TestNewTooShort(t *testing.T) {
	for crc := range newMagics {
		text := newText(impl.Card{}, crc)
		for length := range 110 {
			for _, s := range []string{text[:length], strings.Repeat("\xff", length), strings.Repeat("g", length), "x" + strings.Repeat("0", max(length-1, 0))} {
				if len(s) < 110 {
					checkNoNew(t, "a cut header", s, 0, crc, impl.RdCut)
					checkNoNew(t, "a cut header behind a card", text+s, len(text), crc, impl.RdCut)
				}
			}
		}
		for at := range len(text) {
			judgeNew(t, text, at, crc)
		}
	}
}

func TestNewMagic(t *testing.T) {
	for crc := range newMagics {
		text := newText(newCard(), crc)
		checkNoNew(t, "the magic of the other kind", newText(newCard(), !crc), 0, crc, impl.RdBad)
		checkNoNew(t, "a card of the other kind without data", newText(impl.Card{}, !crc), 0, crc, impl.RdBad)
		for at := range 6 {
			for c := range 256 {
				if text[at] == byte(c) {
					continue
				}
				changed := with(text, at, string([]byte{byte(c)}))
				checkNoNew(t, "another magic", changed, 0, crc, impl.RdBad)
				// It counts ahead of the numbers, of what is not complete, and of the last number.
				checkNoNew(t, "another magic and a malformed number", with(changed, 20, "x"), 0, crc, impl.RdBad)
				checkNoNew(t, "another magic and no name", changed[:110], 0, crc, impl.RdBad)
				checkNoNew(t, "another magic and a wrong last number", with(changed, newSum, "ffffffff"), 0, crc, impl.RdBad)
				checkNoNew(t, "another magic, cut", changed[:109], 0, crc, impl.RdCut)
			}
		}
		for _, magic := range []string{newMagics[!crc], "070700", "070703", "070707", "\x00\x00\x00\x00\x00\x00", "      ", "70701 ", " 70702"} {
			checkNoNew(t, "the magic "+magic, with(text, 0, magic), 0, crc, impl.RdBad)
		}
	}
}

// A byte that is no digit, at every place of every number: capital letters are none.
func TestNewWithMalformedNumbers(t *testing.T) {
	for crc := range newMagics {
		text := newText(newCard(), crc)
		for at := 6; at < 110; at++ {
			for c := range 256 {
				if strings.IndexByte("0123456789abcdef", byte(c)) >= 0 {
					continue
				}
				changed := with(text, at, string([]byte{byte(c)}))
				checkNoNew(t, "a malformed number", changed, 0, crc, impl.RdField)
				checkNoNew(t, "a malformed number and no name", changed[:110], 0, crc, impl.RdField)
			}
			checkNoNew(t, "a malformed number behind a card", text+with(text, at, "g"), len(text), crc, impl.RdField)
			// It counts ahead of a name and data that are not complete or wrong, and of the last number.
			checkNoNew(t, "a malformed number and much data", with(with(text, newDataSize, "ffffffff"), at, "A"), 0, crc, impl.RdField)
			checkNoNew(t, "a malformed number and an empty name", with(with(text, newPathSize, "00000000"), at, "F"), 0, crc, impl.RdField)
			checkNoNew(t, "a malformed number and a name without NUL", with(with(text, 120, "x"), at, " "), 0, crc, impl.RdField)
			checkNoNew(t, "a malformed number and wrong padding", with(with(text, 121, "x"), at, "-"), 0, crc, impl.RdField)
			checkNoNew(t, "a malformed number and a wrong last number", with(with(text, newSum, "ffffffff"), at, "/"), 0, crc, impl.RdField)
		}
		for at := 6; at < 110; at += 8 {
			for _, field := range []string{" 0000001", "0000001 ", "1       ", "        ", "\x00\x00\x00\x00\x00\x00\x00\x00", "0000000\x00", "-0000001", "+0000001", "0x000001", "000000_1", "0000000A", "ABCDEF00", "\x80\x80\x80\x80\x80\x80\x80\x80"} {
				checkNoNew(t, "the number "+field, with(text, at, field), 0, crc, impl.RdField)
			}
		}
	}
}

// Each of the four zeros is 0.
func TestNewZeros(t *testing.T) {
	for crc := range newMagics {
		text := newText(newCard(), crc)
		for at := newZeros; at < newPathSize; at++ {
			for _, digit := range "123456789abcdef" {
				changed := with(text, at, string(digit))
				checkNoNew(t, "a zero that is not 0", changed, 0, crc, impl.RdField)
				checkNoNew(t, "a zero that is not 0 and no name", changed[:110], 0, crc, impl.RdField)
				checkNoNew(t, "a zero that is not 0 and an empty name", with(changed, newPathSize, "00000000"), 0, crc, impl.RdField)
				checkNoNew(t, "a zero that is not 0 and a name without NUL", with(changed, 120, "x"), 0, crc, impl.RdField)
				checkNoNew(t, "a zero that is not 0 and wrong padding", with(changed, 121, "x"), 0, crc, impl.RdField)
				checkNoNew(t, "a zero that is not 0 and a wrong last number", with(changed, newSum, "ffffffff"), 0, crc, impl.RdField)
				checkNoNew(t, "a zero that is not 0 and another magic", with(changed, 0, "x"), 0, crc, impl.RdBad)
				checkNoNew(t, "a zero that is not 0, cut", changed[:109], 0, crc, impl.RdCut)
			}
		}
		checkNoNew(t, "four zeros that are not 0", with(text, newZeros, strings.Repeat("f", 32)), 0, crc, impl.RdField)
	}
}

// A card is cut at every length, so within its name, its data and the padding of both, and has every length of its name and data.
func TestNewCut(t *testing.T) {
	for crc := range newMagics {
		text := newText(newCard(), crc)
		for length := range len(text) {
			checkNoNew(t, "a cut card", text[:length], 0, crc, impl.RdCut)
			checkNoNew(t, "a cut card behind another", text+text[:length], len(text), crc, impl.RdCut)
			checkNoNew(t, "a cut card at an odd index", "x"+text[:length], 1, crc, impl.RdCut)
		}
		// It counts ahead of what is wrong with the name, the padding and the last number.
		for _, at := range []int{110, 115, 120, 121, 122, 123, 134} {
			for _, b := range []string{"\x00", "x"} {
				judgeNew(t, with(text, at, b), 0, crc)
				checkNoNew(t, "a wrong byte and cut padding", with(text, at, b)[:len(text)-1], 0, crc, impl.RdCut)
				checkNoNew(t, "a wrong byte and cut data", with(text, at, b)[:130+max(at-129, 0)], 0, crc, impl.RdCut)
			}
		}
		codes := map[int]int{}
		for pathSize := range 40 {
			for dataSize := range 40 {
				sized := with(with(text, newPathSize, fmt.Sprintf("%08x", pathSize)), newDataSize, fmt.Sprintf("%08x", dataSize))
				code := judgeNew(t, sized, 0, crc)
				// 110 bytes, with 26 behind them.
				if complete := (110+pathSize+3)/4*4+(dataSize+3)/4*4 <= 136; complete == (code == impl.RdCut) {
					t.Errorf("a name of %d bytes with %d bytes of data has the code %d", pathSize, dataSize, code)
				}
				codes[code]++
			}
		}
		if codes[impl.RdOk] == 0 || codes[impl.RdBad] == 0 || codes[impl.RdCut] == 0 || crc == (codes[impl.RdSum] == 0) {
			t.Errorf("these codes occur, %v: %v", crc, codes)
		}
	}
}

// A name ends with its only NUL.
func TestNewNames(t *testing.T) {
	for crc := range newMagics {
		for length := range 6 {
			for _, name := range all("a/\x00", length) {
				head := with(newText(impl.Card{}, crc)[:110], newPathSize, fmt.Sprintf("%08x", length))
				sized := head + name + strings.Repeat("\x00", len(filled(head+name))-110-length)
				want := impl.RdBad
				if length > 0 && strings.Index(name, "\x00") == length-1 {
					want = impl.RdOk
				}
				for _, behind := range []string{"", "\x00", "x"} {
					if got := judgeNew(t, sized+behind, 0, crc); got != want {
						t.Errorf("a card with the name %q has the code %d, want %d", name, got, want)
					}
				}
			}
		}
		head := newText(impl.Card{}, crc)[:newPathSize]
		one := with(head, newDataSize, "00000001")
		x := map[bool]string{false: "00000000", true: "00000078"}[crc]
		for _, c := range []struct {
			name, card string
			want       int
		}{
			{"no bytes", head + "00000000" + "00000000" + "\x00\x00", impl.RdBad},
			{"no bytes and no padding", head + "00000000" + "00000000", impl.RdCut},
			{"no bytes and half its padding", head + "00000000" + "00000000" + "\x00", impl.RdCut},
			{"no bytes and other padding", head + "00000000" + "00000000" + "ab", impl.RdBad},
			{"no bytes, with data", one + "00000000" + x + "\x00\x00" + "x\x00\x00\x00", impl.RdBad},
			{"no bytes, with a wrong last number", head + "00000000" + "00000001" + "\x00\x00", impl.RdBad},
			{"no bytes, with a NUL behind", head + "00000000" + "00000000" + "\x00\x00\x00", impl.RdBad},
			{"one byte without its NUL", head + "00000001" + "00000000" + "a\x00", impl.RdBad},
			{"two bytes without their NUL", head + "00000002" + "00000000" + "aa", impl.RdBad},
			{"one NUL", head + "00000001" + "00000000" + "\x00\x00", impl.RdOk},
			{"one NUL, with data", one + "00000001" + x + "\x00\x00" + "x\x00\x00\x00", impl.RdOk},
			{"two NULs", head + "00000002" + "00000000" + "\x00\x00", impl.RdBad},
			{"its NUL in front", head + "00000002" + "00000000" + "\x00a", impl.RdBad},
			{"its NUL in the padding", head + "00000003" + "00000000" + "abc\x00\x00\x00", impl.RdBad},
			{"a NUL within and one at the end", head + "00000004" + "00000000" + "a\x00c\x00\x00\x00", impl.RdBad},
		} {
			if got := judgeNew(t, c.card, 0, crc); got != c.want {
				t.Errorf("a name of %s, %v, has the code %d, want %d", c.name, crc, got, c.want)
			}
		}
	}
}

// newFault is something that is wrong with a card: other bytes at a place, or what is behind a length is missing.
type newFault struct {
	at     int
	text   string
	length int
}

// newFaults returns, in the order of the document, the reasons to refuse a card, each with the faults that are such a reason.
func newFaults(text string, crc bool) []struct {
	code   int
	faults []newFault
} {
	return []struct {
		code   int
		faults []newFault
	}{
		{impl.RdCut, []newFault{{length: 1}, {length: 109}}},
		{impl.RdBad, []newFault{{at: 0, text: newMagics[!crc]}, {at: 5, text: "3"}}},
		{impl.RdField, []newFault{{at: 6, text: "x"}, {at: newZeros + 31, text: "1"}, {at: newHeadEnd - 1, text: "G"}}},
		{impl.RdCut, []newFault{{length: 110}, {length: len(text) - 1}, {at: newDataSize, text: "f"}, {at: newDataSize, text: "0000000d"}}},
		{impl.RdBad, []newFault{{at: 110, text: "\x00"}, {at: 120, text: "x"}, {at: 121, text: "\x01"}, {at: 134, text: " "}}},
		{impl.RdSum, []newFault{{at: newSum, text: "12345678"}}},
	}
}

// Whatever is wrong with a card at once, the code is that of the reason that the document states first.
func TestNewFirstReason(t *testing.T) {
	for crc := range newMagics {
		text := newText(newCard(), crc)
		judged := 0
		var judge func(s string, length int, code int, reasons int)
		// The last reasons first: where two faults have the same place, the earlier one stands there.
		judge = func(s string, length int, code int, reasons int) {
			if reasons == 0 {
				judged++
				if got := judgeNew(t, s[:length], 0, crc); got != code {
					t.Fatalf("%q, %v, has the code %d, want %d", s[:length], crc, got, code)
				}
				return
			}
			judge(s, length, code, reasons-1)
			reason := newFaults(text, crc)[reasons-1]
			for _, fault := range reason.faults {
				if fault.length > 0 {
					judge(s, min(length, fault.length), reason.code, reasons-1)
				} else {
					judge(with(s, fault.at, fault.text), length, reason.code, reasons-1)
				}
			}
		}
		judge(text, len(text), impl.RdOk, len(newFaults(text, crc)))
		if judged != 3*3*4*5*5*2 {
			t.Errorf("%d cards are judged", judged)
		}
	}
}

// Whatever is accepted is the card that is read, whichever byte is another one, from every index.
func TestAcceptedNewIsWritten(t *testing.T) {
	for crc, magic := range newMagics {
		text := newText(impl.Card{Ino: 7, Mode: 0o40755, Count: 2, Path: magic, Data: magic + strings.Repeat("0", 105)}, crc)
		codes := map[int]int{}
		for at := range text {
			for c := range 256 {
				codes[judgeNew(t, with(text, at, string([]byte{byte(c)})), 0, crc)]++
			}
			for _, c := range "\x00 07af" {
				changed := with(text, at, string(c)) + text
				for i := range changed {
					codes[judgeNew(t, changed, i, crc)]++
				}
			}
		}
		least := map[int]int{impl.RdOk: 1000, impl.RdCut: 1000, impl.RdField: 1000, impl.RdBad: 1000, impl.RdSum: 100}
		for code, n := range least {
			if codes[code] < n {
				t.Errorf("the code %d occurs only %d times, %v", code, codes[code], crc)
			}
		}
	}
}
