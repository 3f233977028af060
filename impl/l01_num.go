package impl

import (
	"math/bits"
	"strconv"
	"strings"
)

const MaxNum = 9007199254740991

const (
	maxWidth = 20
	maxHex   = 4294967295
	hexWidth = 8
	bigMark  = 128
	maxUnit  = 512
	maxFill  = 1024
	maxRead  = 999999
)

// unsigned holds the two widths in which binary headers keep their numbers.
type unsigned interface {
	uint16 | uint32
}

func PutOct(n int, width int) (string, bool) {
	digits, ok := fieldDigits(n, width, 8)
	if !ok {
		return "", false
	}
	return zeros(digits, width), true
}

func GetOct(s string) (int, bool) {
	if len(s) > maxWidth {
		return 0, false
	}
	return wholeNumber(s, 8)
}

func PutHex(n int) (string, bool) {
	if n < 0 || n > maxHex {
		return "", false
	}
	return zeros(strconv.FormatInt(int64(n), 16), hexWidth), true
}

func GetHex(s string) (int, bool) {
	if len(s) != hexWidth {
		return 0, false
	}
	return wholeNumber(s, 16)
}

func PutDec(n int, width int) (string, bool) {
	return putSpaced(n, width, 10)
}

func GetDec(s string) (int, bool) {
	return getSpaced(s, 10)
}

func PutBig(n int, width int) (string, bool) {
	if n < 0 || n > MaxNum || width < 2 || width > maxWidth {
		return "", false
	}
	field := make([]byte, width)
	field[0] = bigMark
	for i := width - 1; i > 0; i-- {
		field[i] = byte(n)
		n >>= 8
	}
	if n != 0 {
		return "", false
	}
	return string(field), true
}

func GetBig(s string) (int, bool) {
	if len(s) < 2 || len(s) > maxWidth || s[0] != bigMark {
		return 0, false
	}
	n := 0
	for i := 1; i < len(s); i++ {
		n = n<<8 | int(s[i])
		// Asked at every byte: 19 bytes of a number would overflow an int.
		if n > MaxNum {
			return 0, false
		}
	}
	return n, true
}

func Put16(n int, high bool) string {
	return putWord(uint16(n), high)
}

func Get16(s string, at int, high bool) int {
	return getWord[uint16](s, at, high)
}

func Put32(n int, high bool) string {
	return putWord(uint32(n), high)
}

func Get32(s string, at int, high bool) int {
	return getWord[uint32](s, at, high)
}

func SumOf(s string) int {
	sum := 0
	for i := range len(s) {
		sum += int(s[i])
	}
	return sum
}

func Pad(n int, unit int) int {
	if n < 0 || n > MaxNum || unit < 1 || unit > maxUnit {
		return 0
	}
	return (unit - n%unit) % unit
}

// Fill copies s where nothing is appended, because a result shares no memory with an argument.
func Fill(s string, width int) string {
	if len(s) >= width || width > maxFill {
		return strings.Clone(s)
	}
	return s + strings.Repeat("\x00", width-len(s))
}

// Cut copies the prefix, because a result shares no memory with an argument.
func Cut(s string) string {
	before, _, _ := strings.Cut(s, "\x00")
	return strings.Clone(before)
}

func DecText(n int) string {
	return strconv.Itoa(n)
}

func ReadDec(s string) int {
	n, _ := leadNumber(s, 10)
	if n > maxRead || DecText(n) != s {
		return -1
	}
	return n
}

// Words splits a copy of s, because a result shares no memory with an argument.
func Words(s string) []string {
	return strings.Split(strings.Clone(s), " ")
}

// fieldDigits returns the digits of n, and false if they have no place in a field of that width.
func fieldDigits(n int, width int, base int) (string, bool) {
	if n < 0 || n > MaxNum || width < 1 || width > maxWidth {
		return "", false
	}
	digits := strconv.FormatInt(int64(n), base)
	return digits, len(digits) <= width
}

// zeros pads digits, of which there are at most width.
func zeros(digits string, width int) string {
	return strings.Repeat("0", width-len(digits)) + digits
}

// putSpaced writes n without leading zeros and with trailing spaces.
func putSpaced(n int, width int, base int) (string, bool) {
	digits, ok := fieldDigits(n, width, base)
	if !ok {
		return "", false
	}
	return spaces(digits, width), true
}

// getSpaced returns the number that putSpaced writes as s, and false if there is none.
func getSpaced(s string, base int) (int, bool) {
	n, _ := leadNumber(s, base)
	// Writing the number again refuses leading zeros and whatever follows the digits other than spaces.
	again, ok := putSpaced(n, len(s), base)
	if !ok || again != s {
		return 0, false
	}
	return n, true
}

// spaces pads s, which has at most width bytes.
func spaces(s string, width int) string {
	return s + strings.Repeat(" ", width-len(s))
}

// wholeNumber returns the value of s, and false if s is empty or leadNumber stops before its end.
func wholeNumber(s string, base int) (int, bool) {
	n, used := leadNumber(s, base)
	if used == 0 || used < len(s) {
		return 0, false
	}
	return n, true
}

// leadNumber returns the number at the start of s and how many digits it has.
// It stops at the first byte that is no digit of the base, and ahead of a digit that would exceed MaxNum.
func leadNumber(s string, base int) (int, int) {
	n, used := 0, 0
scan:
	for used < len(s) {
		digit := 0
		switch c := s[used]; {
		case '0' <= c && c <= '9':
			digit = int(c - '0')
		case 'a' <= c && c <= 'f':
			digit = int(c-'a') + 10
		default:
			break scan
		}
		if digit >= base || n*base+digit > MaxNum {
			break scan
		}
		n = n*base + digit
		used++
	}
	return n, used
}

// wordSize returns the number of bytes of T.
func wordSize[T unsigned]() int {
	return bits.Len32(uint32(^T(0))) / 8
}

// putWord writes n in halves of 16 bits. The more significant half always comes first: high orders the bytes within a half.
func putWord[T unsigned](n T, high bool) string {
	size := wordSize[T]()
	text := make([]byte, 0, size)
	for shift := 8*size - 16; shift >= 0; shift -= 16 {
		half := n >> shift
		first, second := byte(half), byte(half>>8)
		if high {
			first, second = second, first
		}
		text = append(text, first, second)
	}
	return string(text)
}

// getWord reads what putWord wrote, or -1 if s does not contain all of it.
func getWord[T unsigned](s string, at int, high bool) int {
	size := wordSize[T]()
	if at < 0 || at > len(s)-size {
		return -1
	}
	var n T
	for i := at; i < at+size; i += 2 {
		upper, lower := s[i+1], s[i]
		if high {
			upper, lower = lower, upper
		}
		n = n<<8 | T(upper)
		n = n<<8 | T(lower)
	}
	return int(n)
}
