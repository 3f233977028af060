package tests

import (
	"encoding/binary"
	"fmt"
	"math"
	"strings"
	"testing"

	"loop.example/g00413/impl"
)

// Promise 9, a card is recovered from its bytes in either byte order: PutBin and GetBin.

// binOrders tells by high how the two bytes of a number stand.
var binOrders = map[bool]binary.AppendByteOrder{false: binary.LittleEndian, true: binary.BigEndian}

const binMagic = 0o070707

// Where the numbers of a header stand that are no fields of the card.
const (
	binFirstZero = 2
	binLastZero  = 14
	binPathSize  = 20
	binDataSize  = 22
	binHeadEnd   = 26
)

// half returns 16 bits in a byte order.
func half(n int, high bool) string {
	return string(binOrders[high].AppendUint16(nil, uint16(n)))
}

// word returns 32 bits: the upper half first, whatever the byte order is.
func word(n int, high bool) string {
	return half(n>>16, high) + half(n, high)
}

// evened returns s with a NUL if it has an odd number of bytes.
func evened(s string) string {
	if len(s)%2 == 1 {
		return s + "\x00"
	}
	return s
}

// binText returns a card as it stands in an archive, in other words than the program does. Its numbers must fit.
func binText(c impl.Card, high bool) string {
	head := ""
	for _, n := range []int{binMagic, 0, c.Ino, c.Mode, c.Uid, c.Gid, c.Count, 0} {
		head += half(n, high)
	}
	return head + word(c.Time, high) + half(len(c.Path)+1, high) + word(len(c.Data), high) + evened(c.Path+"\x00") + evened(c.Data)
}

// binField is a number in the header of a card.
type binField struct {
	name     string
	at       int
	greatest int
	put      func(n int, high bool) string
	set      func(c *impl.Card, n int)
}

func binFields() []binField {
	return []binField{
		{"Ino", 4, 65535, half, func(c *impl.Card, n int) { c.Ino = n }},
		{"Mode", 6, 65535, half, func(c *impl.Card, n int) { c.Mode = n }},
		{"Uid", 8, 65535, half, func(c *impl.Card, n int) { c.Uid = n }},
		{"Gid", 10, 65535, half, func(c *impl.Card, n int) { c.Gid = n }},
		{"Count", 12, 65535, half, func(c *impl.Card, n int) { c.Count = n }},
		{"Time", 16, 4294967295, word, func(c *impl.Card, n int) { c.Time = n }},
	}
}

// binAt says what GetBin returns in other words than the program does.
func binAt(s string, i int, high bool) (impl.Card, int, int) {
	none := impl.Card{}
	if i < 0 || i >= len(s) || len(s[i:]) < binHeadEnd {
		return none, i, impl.RdCut
	}
	text := s[i:]
	short := func(at int) int { return int(binOrders[high].(binary.ByteOrder).Uint16([]byte(text[at : at+2]))) }
	long := func(at int) int { return short(at)<<16 + short(at+2) }
	if short(0) != binMagic {
		return none, i, impl.RdBad
	}
	if short(binFirstZero)+short(binLastZero) != 0 {
		return none, i, impl.RdField
	}
	nameEnd := binHeadEnd + short(binPathSize)
	dataStart := (nameEnd + 1) / 2 * 2
	dataEnd := dataStart + long(binDataSize)
	end := (dataEnd + 1) / 2 * 2
	if len(text) < end {
		return none, i, impl.RdCut
	}
	name := text[binHeadEnd:nameEnd]
	if strings.Count(name, "\x00") != 1 || !strings.HasSuffix(name, "\x00") || strings.Trim(text[nameEnd:dataStart]+text[dataEnd:end], "\x00") != "" {
		return none, i, impl.RdBad
	}
	c := impl.Card{
		Ino: short(4), Mode: short(6), Uid: short(8), Gid: short(10), Count: short(12), Time: long(16),
		Path: strings.TrimSuffix(name, "\x00"), Data: text[dataStart:dataEnd],
	}
	return c, i + end, impl.RdOk
}

// judgeBin fails unless GetBin tells what stands at the index. It returns the code.
func judgeBin(t *testing.T, s string, i int, high bool) int {
	t.Helper()
	want, wantNext, wantCode := binAt(s, i, high)
	got, next, code := impl.GetBin(s, i, high)
	if got != want || next != wantNext || code != wantCode {
		t.Fatalf("GetBin(%.300q, %d, %v) is %.300v, %d, %d; want %.300v, %d, %d", s, i, high, got, next, code, want, wantNext, wantCode)
	}
	if code == impl.RdOk && impl.PutBin(got, high) != s[i:next] {
		t.Fatalf("%+v is read, but not written as %q", got, s[i:next])
	}
	return code
}

// checkBin fails unless the card is written as this text and read from it, wherever it stands.
func checkBin(t *testing.T, name string, c impl.Card, high bool, want string) {
	t.Helper()
	if got := impl.PutBin(c, high); got != want {
		t.Errorf("PutBin of %s, %v, is %.200q, want %.200q", name, high, got, want)
	}
	for _, ahead := range []string{"", "x", "\x00\x00", half(binMagic, high), strings.Repeat("\xff", 25), want, want + "x"} {
		for _, behind := range []string{"", "\x00", half(binMagic, high), strings.Repeat("\xff", 100), want} {
			got, next, code := impl.GetBin(ahead+want+behind, len(ahead), high)
			if got != c || next != len(ahead)+len(want) || code != impl.RdOk {
				t.Errorf("GetBin of %s, %v, at %d is %.200v, %d, %d", name, high, len(ahead), got, next, code)
			}
		}
	}
}

// checkBothBin does so in both byte orders.
func checkBothBin(t *testing.T, name string, c impl.Card) {
	t.Helper()
	for high := range binOrders {
		checkBin(t, name, c, high, binText(c, high))
	}
}

// checkNoBin fails unless GetBin refuses s with the code and tells nothing else.
func checkNoBin(t *testing.T, name string, s string, i int, high bool, want int) {
	t.Helper()
	if c, next, code := impl.GetBin(s, i, high); code != want || c != (impl.Card{}) || next != i {
		t.Errorf("GetBin of %s, %v, at %d is %.200v, %d, %d; want the code %d", name, high, i, c, next, code, want)
	}
}

// checkBinRefused fails unless PutBin refuses the card in both byte orders.
func checkBinRefused(t *testing.T, name string, c impl.Card) {
	t.Helper()
	for high := range binOrders {
		if got := impl.PutBin(c, high); got != "" {
			t.Errorf("PutBin of %s, %v, has %d bytes", name, high, len(got))
		}
	}
}

// binCard returns a card with another number in every field, whose name is padded as well as its data.
func binCard() impl.Card {
	return impl.Card{Ino: 0x1234, Mode: 0x81a4, Uid: 0xabcd, Gid: 7, Count: 0x12, Time: 0x6543210f, Path: "a/b/c/d.ef", Data: "some data"}
}

func TestBinLayout(t *testing.T) {
	low := impl.PutBin(binCard(), false)
	checkFields(t, low, []headField{
		{"magic", 0, 2, "\xc7\x71"},
		{"the first zero", 2, 4, "\x00\x00"},
		{"Ino", 4, 6, "\x34\x12"},
		{"Mode", 6, 8, "\xa4\x81"},
		{"Uid", 8, 10, "\xcd\xab"},
		{"Gid", 10, 12, "\x07\x00"},
		{"Count", 12, 14, "\x12\x00"},
		{"the last zero", 14, 16, "\x00\x00"},
		{"Time", 16, 20, "\x43\x65\x0f\x21"},
		{"length of Path", 20, 22, "\x0b\x00"},
		{"length of Data", 22, 26, "\x00\x00\x09\x00"},
		{"Path", 26, 37, "a/b/c/d.ef\x00"},
		{"padding of Path", 37, 38, "\x00"},
		{"Data", 38, 47, "some data"},
		{"padding of Data", 47, 48, "\x00"},
	})
	high := impl.PutBin(binCard(), true)
	checkFields(t, high, []headField{
		{"magic", 0, 2, "\x71\xc7"},
		{"the first zero", 2, 4, "\x00\x00"},
		{"Ino", 4, 6, "\x12\x34"},
		{"Mode", 6, 8, "\x81\xa4"},
		{"Uid", 8, 10, "\xab\xcd"},
		{"Gid", 10, 12, "\x00\x07"},
		{"Count", 12, 14, "\x00\x12"},
		{"the last zero", 14, 16, "\x00\x00"},
		{"Time", 16, 20, "\x65\x43\x21\x0f"},
		{"length of Path", 20, 22, "\x00\x0b"},
		{"length of Data", 22, 26, "\x00\x00\x00\x09"},
		{"Path", 26, 37, "a/b/c/d.ef\x00"},
		{"padding of Path", 37, 38, "\x00"},
		{"Data", 38, 47, "some data"},
		{"padding of Data", 47, 48, "\x00"},
	})
	checkBin(t, "a card", binCard(), false, low)
	checkBin(t, "a card", binCard(), true, high)
	zeros := strings.Repeat("\x00", 26)
	checkBin(t, "the zero Card", impl.Card{}, false, "\xc7\x71"+zeros[:18]+"\x01\x00"+zeros[:4]+"\x00\x00")
	checkBin(t, "the zero Card", impl.Card{}, true, "\x71\xc7"+zeros[:18]+"\x00\x01"+zeros[:4]+"\x00\x00")
	end := impl.Card{Count: 1, Path: "TRAILER!!!"}
	checkBin(t, "the trailer", end, false, "\xc7\x71"+zeros[:10]+"\x01\x00"+zeros[:6]+"\x0b\x00"+zeros[:4]+"TRAILER!!!\x00\x00")
	checkBin(t, "the trailer", end, true, "\x71\xc7"+zeros[:10]+"\x00\x01"+zeros[:6]+"\x00\x0b"+zeros[:4]+"TRAILER!!!\x00\x00")
	checkBin(t, "a card without Path", impl.Card{Data: "\x01"}, false, "\xc7\x71"+zeros[:18]+"\x01\x00"+"\x00\x00\x01\x00"+"\x00\x00"+"\x01\x00")
}

// Each number is written up to the greatest value of its 16 or 32 bits, and no negative one.
func TestBinNumbers(t *testing.T) {
	for high := range binOrders {
		for _, base := range []impl.Card{{}, binCard()} {
			for _, f := range binFields() {
				for _, n := range []int{0, 1, 127, 128, 255, 256, 257, 258, 33188, 0x7fff, 0x8000, 0xff00, f.greatest / 2, f.greatest/2 + 1, f.greatest - 1, f.greatest} {
					c := base
					f.set(&c, n)
					checkBin(t, f.name+" "+impl.DecText(n), c, high, with(binText(base, high), f.at, f.put(n, high)))
				}
			}
		}
		full := impl.Card{Path: "p", Data: "d"}
		for _, f := range binFields() {
			f.set(&full, f.greatest)
		}
		checkBin(t, "the greatest numbers", full, high, half(binMagic, high)+"\x00\x00"+strings.Repeat("\xff", 10)+"\x00\x00"+strings.Repeat("\xff", 4)+half(2, high)+word(1, high)+"p\x00d\x00")
	}
	for _, base := range []impl.Card{{}, binCard()} {
		for _, f := range binFields() {
			for _, n := range []int{-1, -2, -128, -65535, -65536, -4294967295, -4294967296, math.MinInt, math.MinInt + 1, f.greatest + 1, f.greatest + 2, 2 * f.greatest, 2*f.greatest + 2, 1 << 32, 1<<32 + 1, 1 << 40, 1<<63 - 1<<32, impl.MaxNum, impl.MaxNum + 1, math.MaxInt} {
				c := base
				f.set(&c, n)
				checkBinRefused(t, f.name+" "+impl.DecText(n), c)
			}
		}
	}
}

// The upper half of a Time stands first in both byte orders.
func TestBinTimes(t *testing.T) {
	for _, c := range []struct {
		time      int
		low, high string
	}{
		{1, "\x00\x00\x01\x00", "\x00\x00\x00\x01"},
		{256, "\x00\x00\x00\x01", "\x00\x00\x01\x00"},
		{65535, "\x00\x00\xff\xff", "\x00\x00\xff\xff"},
		{65536, "\x01\x00\x00\x00", "\x00\x01\x00\x00"},
		{65537, "\x01\x00\x01\x00", "\x00\x01\x00\x01"},
		{131073, "\x02\x00\x01\x00", "\x00\x02\x00\x01"},
		{16777216, "\x00\x01\x00\x00", "\x01\x00\x00\x00"},
		{16909060, "\x02\x01\x04\x03", "\x01\x02\x03\x04"},
		{4294901760, "\xff\xff\x00\x00", "\xff\xff\x00\x00"},
		{4294967294, "\xff\xff\xfe\xff", "\xff\xff\xff\xfe"},
		{4294967295, "\xff\xff\xff\xff", "\xff\xff\xff\xff"},
	} {
		card := binCard()
		card.Time = c.time
		checkBin(t, "a Time", card, false, with(binText(binCard(), false), 16, c.low))
		checkBin(t, "a Time", card, true, with(binText(binCard(), true), 16, c.high))
	}
}

// Neither the Path nor the Data has to be that of an entry.
func TestBinTexts(t *testing.T) {
	texts := append(badPaths(), goodPaths()...)
	texts = append(texts, everyByte()[1:], half(binMagic, false), half(binMagic, true), "TRAILER!!!", binText(binCard(), true)[:26], strings.Repeat("x", 3000), strings.Repeat("\xff", 10001))
	written := 0
	for _, text := range texts {
		c := binCard()
		c.Data = text
		checkBothBin(t, "Data", c)
		c.Path, c.Data = text, ""
		if strings.Contains(text, "\x00") {
			continue
		}
		checkBothBin(t, "a Path", c)
		c.Data = text
		checkBothBin(t, "a Path and Data", c)
		written++
	}
	if written < 40 {
		t.Errorf("there are only %d Paths", written)
	}
	// The length of the Data has 32 bits, whose upper half is written first.
	for _, length := range []int{0, 1, 2, 255, 256, 257, 2999, 3000, 3001, 65534, 65535, 65536, 65537, 131073, 1 << 20, 1<<20 + 1} {
		c := binCard()
		for _, fill := range []string{"\x00", "d"} {
			c.Data = strings.Repeat(fill, length)
			checkBothBin(t, "much Data", c)
		}
	}
}

// The length of the Path counts its NUL, and has 16 bits.
func TestBinPathLengths(t *testing.T) {
	for _, length := range []int{0, 1, 2, 3, 199, 200, 201, 254, 255, 256, 257, 32767, 32768, 65532, 65533, 65534} {
		c := impl.Card{Path: strings.Repeat("p", length), Data: "data!"}
		checkBothBin(t, "a Path", c)
		for high := range binOrders {
			text := impl.PutBin(c, high)
			if len(text) < 26 || text[binPathSize:binDataSize] != half(length+1, high) {
				t.Fatalf("PutBin of a Path of %d bytes is %.100q", length, text)
			}
			checkNoBin(t, "a card without its last byte", text[:len(text)-1], 0, high, impl.RdCut)
		}
	}
	for _, length := range []int{65535, 65536, 65537, 65790, 131070, 131071, 131072, 1 << 20, 1 << 24} {
		checkBinRefused(t, "a Path of "+impl.DecText(length)+" bytes", impl.Card{Path: strings.Repeat("p", length)})
	}
	// Without its NUL a name has one byte more than the greatest Path.
	for high := range binOrders {
		full := with(binText(impl.Card{}, high)[:26], binPathSize, "\xff\xff")
		checkNoBin(t, "the longest name without its NUL", full+strings.Repeat("p", 65535)+"\x00", 0, high, impl.RdBad)
		checkNoBin(t, "the longest name without its padding", full+strings.Repeat("p", 65534)+"\x00", 0, high, impl.RdCut)
		checkNoBin(t, "the longest name with other padding", full+strings.Repeat("p", 65534)+"\x00p", 0, high, impl.RdBad)
		if code := judgeBin(t, full+strings.Repeat("p", 65534)+"\x00\x00", 0, high); code != impl.RdOk {
			t.Errorf("the longest name has the code %d", code)
		}
	}
}

func TestBinWithTooMuchData(t *testing.T) {
	data := muchText(t, 4294967295+10)
	for _, length := range []int{4294967296, 4294967297, 4294967305} {
		checkBinRefused(t, "too much Data", impl.Card{Path: "a", Data: data[:length]})
		checkBinRefused(t, "a Path that is much too long", impl.Card{Path: data[:length]})
	}
}

func TestBinWithTheGreatestData(t *testing.T) {
	for high := range binOrders {
		t.Run(fmt.Sprint(high), func(t *testing.T) {
			checkTaken(t, 4294967295, func(data string) string { return impl.PutBin(impl.Card{Path: "a", Data: data}, high) })
		})
	}
}

// In an archive the greatest lengths are numbers like any others, here of texts that are not complete.
func TestBinWithTheGreatestLengths(t *testing.T) {
	for high := range binOrders {
		text := binText(binCard(), high)
		for _, length := range []int{4294967295, 4294967294, 0x80000000, 0x7fffffff, 65536, 0x90000} {
			long := with(text, binDataSize, word(length, high))
			checkNoBin(t, "a great length of Data", long, 0, high, impl.RdCut)
			checkNoBin(t, "a great length of Path", with(text, binPathSize, "\xff\xff"), 0, high, impl.RdCut)
			checkNoBin(t, "great lengths", with(long, binPathSize, "\xff\xff"), 0, high, impl.RdCut)
		}
	}
}

// Names and data of odd and even length: what stands behind them is a NUL or nothing.
func TestBinPadding(t *testing.T) {
	const letters = "abcdefgh"
	paddings := map[[2]int]int{}
	for pathSize := range len(letters) {
		for dataSize := range len(letters) {
			c := binCard()
			c.Path, c.Data = letters[:pathSize], letters[:dataSize]
			checkBothBin(t, "a card with padding", c)
			// With its NUL a Path of an odd number of bytes needs no other one.
			namePadding, dataPadding := 1-pathSize%2, dataSize%2
			paddings[[2]int{namePadding, dataPadding}]++
			nameEnd := 26 + pathSize + 1
			dataEnd := nameEnd + namePadding + dataSize
			for high := range binOrders {
				text := impl.PutBin(c, high)
				if len(text) != dataEnd+dataPadding || text[nameEnd:nameEnd+namePadding] != "\x00"[:namePadding] || text[dataEnd:] != "\x00"[:dataPadding] {
					t.Fatalf("a name of %d and data of %d bytes are written as %q", pathSize, dataSize, text)
				}
				if namePadding == 1 {
					checkWrongBinPadding(t, text, nameEnd, high)
				}
				if dataPadding == 1 {
					checkWrongBinPadding(t, text, dataEnd, high)
				}
			}
		}
	}
	if len(paddings) != 4 {
		t.Errorf("only these paddings occur: %v", paddings)
	}
}

// checkWrongBinPadding fails unless each byte other than a NUL is refused at this place of a card, by a code that counts as the document states.
func checkWrongBinPadding(t *testing.T, text string, at int, high bool) {
	t.Helper()
	for b := 1; b < 256; b++ {
		wrong := with(text, at, string([]byte{byte(b)}))
		for _, s := range []string{wrong, wrong + text, wrong + "\x00"} {
			checkNoBin(t, "a padding byte that is not NUL", s, 0, high, impl.RdBad)
		}
		checkNoBin(t, "wrong padding behind a card", text+wrong, len(text), high, impl.RdBad)
		checkNoBin(t, "wrong padding at an odd index", "x"+wrong, 1, high, impl.RdBad)
		checkNoBin(t, "wrong padding, cut", wrong[:len(wrong)-1], 0, high, impl.RdCut)
		checkNoBin(t, "wrong padding and a zero that is not 0", with(wrong, binLastZero, "x"), 0, high, impl.RdField)
		checkNoBin(t, "wrong padding and another magic", with(wrong, 0, "x"), 0, high, impl.RdBad)
	}
}

// PutBin writes a Path with a NUL, since all numbers fit, but it is not read again.
func TestBinPathWithANul(t *testing.T) {
	for _, path := range []string{"\x00", "a\x00", "\x00a", "a\x00b", "\x00\x00", "ab\x00", "TRAILER!!!\x00", "a\x00b\x00c", strings.Repeat("\x00", 100), strings.Repeat("\x00", 101)} {
		for _, data := range []string{"", "x", "\x00", "xy"} {
			for high := range binOrders {
				c := impl.Card{Path: path, Data: data}
				text := binText(c, high)
				if got := impl.PutBin(c, high); got != text {
					t.Errorf("PutBin of the Path %q is %q", path, got)
				}
				checkNoBin(t, "a Path with a NUL", text, 0, high, impl.RdBad)
				checkNoBin(t, "a Path with a NUL, with bytes behind", text+"x", 0, high, impl.RdBad)
				checkNoBin(t, "a Path with a NUL, cut", text[:len(text)-1], 0, high, impl.RdCut)
			}
		}
	}
}

func TestBinAtNoIndex(t *testing.T) {
	for high := range binOrders {
		text := binText(binCard(), high)
		for _, s := range []string{"", "x", text, text + text, text[:25]} {
			for _, i := range []int{-1, -2, -26, -len(text), math.MinInt, math.MinInt + 1, math.MinInt + 26, len(s), len(s) + 1, len(s) + 26, 1 << 40, math.MaxInt - 26, math.MaxInt - 1, math.MaxInt} {
				checkNoBin(t, "no index", s, i, high, impl.RdCut)
			}
		}
	}
}

// Fewer than 26 bytes are cut, whatever they are.
func TestBinTooShort(t *testing.T) {
	for high := range binOrders {
		text := binText(impl.Card{}, high)
		for length := range 26 {
			for _, s := range []string{text[:length], strings.Repeat("\xff", length), strings.Repeat("\x00", length), strings.Repeat("x", length), binText(impl.Card{}, !high)[:length]} {
				checkNoBin(t, "a cut header", s, 0, high, impl.RdCut)
				checkNoBin(t, "a cut header behind a card", text+s, len(text), high, impl.RdCut)
			}
		}
		for at := range len(text) {
			judgeBin(t, text, at, high)
		}
	}
}

// The magic of the other byte order is another one.
func TestBinMagic(t *testing.T) {
	for high := range binOrders {
		text := binText(binCard(), high)
		checkNoBin(t, "a card of the other byte order", binText(binCard(), !high), 0, high, impl.RdBad)
		checkNoBin(t, "the zero Card of the other byte order", binText(impl.Card{}, !high), 0, high, impl.RdBad)
		for n := range 1 << 16 {
			magic := half(n, high)
			want := impl.RdBad
			if n == 29127 {
				want = impl.RdOk
			}
			if code := judgeBin(t, magic+text[2:], 0, high); code != want {
				t.Errorf("the magic %q, %v, has the code %d, want %d", magic, high, code, want)
			}
		}
		for _, magic := range []string{half(binMagic, !high), "xx", "\x00\x00", "07", half(binMagic+1, high), half(binMagic, high)[:1] + "x", "x" + half(binMagic, high)[1:]} {
			wrong := magic + text[2:]
			checkNoBin(t, "another magic", wrong, 0, high, impl.RdBad)
			// It counts ahead of the zeros and of what is not complete.
			checkNoBin(t, "another magic and a zero that is not 0", with(wrong, binFirstZero, "x"), 0, high, impl.RdBad)
			checkNoBin(t, "another magic and much data", with(wrong, binDataSize, "\xff"), 0, high, impl.RdBad)
			checkNoBin(t, "another magic and no name", wrong[:26], 0, high, impl.RdBad)
			checkNoBin(t, "another magic, cut", wrong[:25], 0, high, impl.RdCut)
		}
	}
}

// Both bytes of each of the two zeros are 0.
func TestBinZeros(t *testing.T) {
	for high := range binOrders {
		text := binText(binCard(), high)
		for _, at := range []int{binFirstZero, binFirstZero + 1, binLastZero, binLastZero + 1} {
			for b := 1; b < 256; b++ {
				wrong := with(text, at, string([]byte{byte(b)}))
				checkNoBin(t, "a zero that is not 0", wrong, 0, high, impl.RdField)
				checkNoBin(t, "a zero that is not 0 behind a card", text+wrong, len(text), high, impl.RdField)
				// It counts ahead of a name and data that are not complete or wrong.
				checkNoBin(t, "a zero that is not 0 and no name", wrong[:26], 0, high, impl.RdField)
				checkNoBin(t, "a zero that is not 0 and much data", with(wrong, binDataSize, "\xff"), 0, high, impl.RdField)
				checkNoBin(t, "a zero that is not 0 and an empty name", with(wrong, binPathSize, "\x00\x00"), 0, high, impl.RdField)
				checkNoBin(t, "a zero that is not 0 and a name without NUL", with(wrong, 36, "x"), 0, high, impl.RdField)
				checkNoBin(t, "a zero that is not 0 and wrong padding", with(wrong, 37, "x"), 0, high, impl.RdField)
				checkNoBin(t, "a zero that is not 0 and another magic", with(wrong, 0, "x"), 0, high, impl.RdBad)
				checkNoBin(t, "a zero that is not 0, cut", wrong[:25], 0, high, impl.RdCut)
			}
		}
		// Two zeros that are not 0, even if they add up to one that is.
		checkNoBin(t, "zeros of 1 and 65535", with(with(text, binFirstZero, half(1, high)), binLastZero, half(65535, high)), 0, high, impl.RdField)
		checkNoBin(t, "zeros of 32768", with(with(text, binFirstZero, half(32768, high)), binLastZero, half(32768, high)), 0, high, impl.RdField)
	}
}

// A card is cut at every length, so within its name, its data and the padding of both, and has every length of its name and data.
func TestBinCut(t *testing.T) {
	for high := range binOrders {
		text := binText(binCard(), high)
		for length := range len(text) {
			checkNoBin(t, "a cut card", text[:length], 0, high, impl.RdCut)
			checkNoBin(t, "a cut card behind another", text+text[:length], len(text), high, impl.RdCut)
			checkNoBin(t, "a cut card at an odd index", "x"+text[:length], 1, high, impl.RdCut)
		}
		// It counts ahead of what is wrong with the name and the padding.
		for _, at := range []int{26, 31, 36, 37, 47} {
			for _, b := range []string{"\x00", "x"} {
				judgeBin(t, with(text, at, b), 0, high)
				checkNoBin(t, "a wrong byte and no padding", with(text, at, b)[:len(text)-1], 0, high, impl.RdCut)
			}
		}
		codes := map[int]int{}
		for pathSize := range 40 {
			for dataSize := range 40 {
				sized := with(with(text, binPathSize, half(pathSize, high)), binDataSize, word(dataSize, high))
				code := judgeBin(t, sized, 0, high)
				// There are 22 bytes behind the header.
				if complete := (pathSize+1)/2*2+(dataSize+1)/2*2 <= 22; complete == (code == impl.RdCut) {
					t.Errorf("a name of %d bytes with %d bytes of data has the code %d", pathSize, dataSize, code)
				}
				codes[code]++
			}
		}
		if codes[impl.RdOk] == 0 || codes[impl.RdBad] == 0 || codes[impl.RdCut] == 0 {
			t.Errorf("these codes occur, %v: %v", high, codes)
		}
	}
}

// A name ends with its only NUL.
func TestBinNames(t *testing.T) {
	for high := range binOrders {
		for length := range 6 {
			for _, name := range all("a/\x00", length) {
				sized := with(binText(impl.Card{}, high)[:26], binPathSize, half(length, high)) + evened(name)
				want := impl.RdBad
				if length > 0 && strings.Index(name, "\x00") == length-1 {
					want = impl.RdOk
				}
				for _, behind := range []string{"", "\x00", "x"} {
					if got := judgeBin(t, sized+behind, 0, high); got != want {
						t.Errorf("a card with the name %q has the code %d, want %d", name, got, want)
					}
				}
			}
		}
		head := binText(impl.Card{}, high)[:binPathSize]
		for _, c := range []struct {
			name               string
			pathSize, dataSize int
			text               string
			want               int
		}{
			{"no bytes", 0, 0, "", impl.RdBad},
			{"no bytes, with a NUL behind", 0, 0, "\x00", impl.RdBad},
			{"no bytes, with two NULs behind", 0, 0, "\x00\x00", impl.RdBad},
			{"no bytes, with data", 0, 1, "x\x00", impl.RdBad},
			{"no bytes, with data of NULs", 0, 2, "\x00\x00", impl.RdBad},
			{"no bytes, with data that is cut", 0, 1, "x", impl.RdCut},
			{"one byte without its NUL", 1, 0, "a\x00", impl.RdBad},
			{"one byte without anything behind", 1, 0, "a", impl.RdCut},
			{"two bytes without their NUL", 2, 0, "aa", impl.RdBad},
			{"two bytes with a NUL behind", 2, 0, "aa\x00", impl.RdBad},
			{"one NUL", 1, 0, "\x00\x00", impl.RdOk},
			{"one NUL without padding", 1, 0, "\x00", impl.RdCut},
			{"one NUL with other padding", 1, 0, "\x00a", impl.RdBad},
			{"one NUL, with data", 1, 1, "\x00\x00x\x00", impl.RdOk},
			{"two NULs", 2, 0, "\x00\x00", impl.RdBad},
			{"its NUL in front", 2, 0, "\x00a", impl.RdBad},
			{"its NUL in the padding", 3, 0, "abc\x00", impl.RdBad},
			{"its NUL in the data", 2, 2, "ab\x00x", impl.RdBad},
			{"a NUL within and one at the end", 4, 0, "a\x00c\x00", impl.RdBad},
		} {
			card := head + half(c.pathSize, high) + word(c.dataSize, high) + c.text
			if got := judgeBin(t, card, 0, high); got != c.want {
				t.Errorf("a name of %s, %v, has the code %d, want %d", c.name, high, got, c.want)
			}
		}
	}
}

// binFault is something that is wrong with a card: other bytes at a place, or what is behind a length is missing.
type binFault struct {
	at     int
	text   string
	length int
}

// binReason is a reason to refuse a card, with faults that are such a reason.
type binReason struct {
	code   int
	faults []binFault
}

// binReasons returns the reasons in the order of the document.
func binReasons(text string, high bool) []binReason {
	return []binReason{
		{impl.RdCut, []binFault{{length: 1}, {length: 25}}},
		{impl.RdBad, []binFault{{at: 0, text: half(binMagic, !high)}, {at: 1, text: "\x00"}}},
		{impl.RdField, []binFault{{at: binFirstZero, text: "\x01"}, {at: binFirstZero + 1, text: "\x01"}, {at: binLastZero, text: "\x80"}, {at: binLastZero + 1, text: "0"}}},
		{impl.RdCut, []binFault{{length: 26}, {length: 37}, {length: len(text) - 1}, {at: binDataSize, text: word(11, high)}, {at: binDataSize, text: "\xff"}}},
		{impl.RdBad, []binFault{{at: 26, text: "\x00"}, {at: 36, text: "x"}, {at: 37, text: "\x01"}, {at: len(text) - 1, text: " "}}},
	}
}

// Whatever is wrong with a card at once, the code is that of the reason that the document states first.
func TestBinFirstReason(t *testing.T) {
	for high := range binOrders {
		text := binText(binCard(), high)
		reasons := binReasons(text, high)
		judged := 0
		var judge func(s string, length int, code int, left int)
		// The last reasons first: where two faults have the same place, the earlier one stands there.
		judge = func(s string, length int, code int, left int) {
			if left == 0 {
				judged++
				if got := judgeBin(t, s[:length], 0, high); got != code {
					t.Fatalf("%q, %v, has the code %d, want %d", s[:length], high, got, code)
				}
				return
			}
			judge(s, length, code, left-1)
			reason := reasons[left-1]
			for _, fault := range reason.faults {
				if fault.length > 0 {
					judge(s, min(length, fault.length), reason.code, left-1)
				} else {
					judge(with(s, fault.at, fault.text), length, reason.code, left-1)
				}
			}
		}
		judge(text, len(text), impl.RdOk, len(reasons))
		if judged != 3*3*5*6*5 {
			t.Errorf("%d cards are judged", judged)
		}
	}
}

// Whatever is accepted is the card that is read, whichever byte is another one, from every index.
func TestAcceptedBinIsWritten(t *testing.T) {
	for high := range binOrders {
		magic := half(binMagic, high)
		text := binText(impl.Card{Ino: 7, Mode: 0o40755, Count: 2, Path: magic, Data: magic + strings.Repeat("\x00", 18) + half(1, high) + word(3, high)}, high)
		codes := map[int]int{}
		for at := range text {
			for c := range 256 {
				codes[judgeBin(t, with(text, at, string([]byte{byte(c)})), 0, high)]++
			}
			for _, c := range "\x00\x01 07\x1a" {
				changed := with(text, at, string(c)) + text
				for i := range changed {
					codes[judgeBin(t, changed, i, high)]++
					judgeBin(t, changed, i, !high)
				}
			}
		}
		for code, least := range map[int]int{impl.RdOk: 1000, impl.RdCut: 1000, impl.RdField: 1000, impl.RdBad: 1000} {
			if codes[code] < least {
				t.Errorf("the code %d occurs only %d times, %v", code, codes[code], high)
			}
		}
		if codes[impl.RdSum]+codes[impl.RdEnd] > 0 {
			t.Errorf("a card has a code that none has: %v", codes)
		}
	}
}
