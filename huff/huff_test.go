package huff_test

import (
	"bytes"
	"math"
	"strings"
	"testing"

	"aqueduct/api"
	"aqueduct/huff"
)

// line is a line of the document's table: all symbols, the end among them, whose codes have so many bits.
type line struct {
	bits    int
	symbols []int
}

func lines() []line {
	return []line{
		{5, letters("0 1 2 a c e i o s t")},
		{6, append([]int{32}, letters("% - . / 3 4 5 6 7 8 9 = A _ b d f g h l m n p r u")...)},
		{7, letters(": B C D E F G H I J K L M N O P Q R S T U V W Y j k q v w x y z")},
		{8, letters("& * , ; X Z")},
		{10, letters("! \" ( ) ?")},
		{11, append(letters("' +"), 124)},
		{12, letters("# >")},
		{13, append([]int{0}, letters("$ @ [ ] ~")...)},
		{14, letters("^ }")},
		{15, letters("< ` {")},
		{19, []int{92, 195, 208}},
		{20, []int{128, 130, 131, 162, 184, 194, 224, 226}},
		{21, []int{153, 161, 167, 172, 176, 177, 179, 209, 216, 217, 227, 229, 230}},
		{22, []int{129, 132, 133, 134, 136, 146, 154, 156, 160, 163, 164, 169, 170, 173, 178, 181, 185, 186, 187, 189, 190, 196, 198, 228, 232, 233}},
		{23, []int{1, 135, 137, 138, 139, 140, 141, 143, 147, 149, 150, 151, 152, 155, 157, 158, 165, 166, 168, 174, 175, 180, 182, 183, 188, 191, 197, 231, 239}},
		{24, []int{9, 142, 144, 145, 148, 159, 171, 206, 215, 225, 236, 237}},
		{25, []int{199, 207, 234, 235}},
		{26, []int{192, 193, 200, 201, 202, 205, 210, 213, 218, 219, 238, 240, 242, 243, 255}},
		{27, []int{203, 204, 211, 212, 214, 221, 222, 223, 241, 244, 245, 246, 247, 248, 250, 251, 252, 253, 254}},
		{28, []int{2, 3, 4, 5, 6, 7, 8, 11, 12, 14, 15, 16, 17, 18, 19, 20, 21, 23, 24, 25, 26, 27, 28, 29, 30, 31, 127, 220, 249}},
		{30, []int{10, 13, 22, 256}},
	}
}

func letters(text string) []int {
	var out []int
	for _, w := range strings.Fields(text) {
		out = append(out, int(w[0]))
	}
	return out
}

// digits are the bits of a symbol's code, as noughts and ones.
func digits(t *testing.T, symbol int) string {
	t.Helper()
	word, bits, e := huff.Code(symbol)
	if e != api.OK || bits < 1 || bits > 30 || word>>bits != 0 {
		t.Fatalf("Code(%d) = %x, %d, %d", symbol, word, bits, e)
	}
	out := make([]byte, bits)
	for i := range out {
		out[i] = '0' + byte(word>>(bits-1-i)&1)
	}
	return string(out)
}

// pack makes bytes of noughts and ones.
func pack(t *testing.T, bits string) []byte {
	t.Helper()
	if len(bits)%8 != 0 {
		t.Fatalf("%d bits are no whole bytes", len(bits))
	}
	out := make([]byte, len(bits)/8)
	for i := range bits {
		out[i/8] = out[i/8]<<1 | (bits[i] - '0')
	}
	return out
}

// filled is bits, and so many bits 1 that they are whole bytes.
func filled(bits string) string {
	for len(bits)%8 != 0 {
		bits += "1"
	}
	return bits
}

func mustDecode(t *testing.T, b []byte, want string) {
	t.Helper()
	if out, at, e := huff.Decode(b); string(out) != want || at != 0 || e != api.OK {
		t.Fatalf("Decode(% x) = %q, %d, %d, want %q", b, out, at, e, want)
	}
}

func mustRefuse(t *testing.T, b []byte, place int, want api.Errno) {
	t.Helper()
	if out, at, e := huff.Decode(b); len(out) != 0 || at != place || e != want {
		t.Fatalf("Decode(% x) = %q, %d, %d, want none, %d, %d", b, out, at, e, place, want)
	}
}

func TestCodeOfEachSymbol(t *testing.T) { // P3.1, the table
	next, bits, count := uint32(0), 5, 0
	for _, l := range lines() {
		next <<= l.bits - bits
		bits = l.bits
		for _, s := range l.symbols {
			if word, n, e := huff.Code(s); word != next || n != bits || e != api.OK {
				t.Errorf("Code(%d) = %x, %d, %d, want %x, %d", s, word, n, e, next, bits)
			}
			next++
			count++
		}
	}
	if count != 257 {
		t.Errorf("the table has %d symbols", count)
	}
}

func TestCodeExamples(t *testing.T) { // P3.1
	for _, c := range []struct {
		symbol int
		word   uint32
		bits   int
	}{
		{48, 0, 5}, {116, 9, 5}, {' ', 0x14, 6}, {':', 0x5c, 7}, {'Z', 0xfd, 8}, {'!', 0x3f8, 10}, {'|', 0x7fc, 11},
		{0, 0x1ff8, 13}, {'\\', 0x7fff0, 19}, {1, 0x7fffd8, 23}, {9, 0xffffea, 24}, {255, 0x3ffffee, 26},
		{10, 0x3ffffffc, 30}, {13, 0x3ffffffd, 30}, {22, 0x3ffffffe, 30}, {256, 0x3fffffff, 30},
	} {
		if word, bits, e := huff.Code(c.symbol); word != c.word || bits != c.bits || e != api.OK {
			t.Errorf("Code(%d) = %x, %d, %d, want %x, %d", c.symbol, word, bits, e, c.word, c.bits)
		}
	}
}

func TestCodeOfNoSymbol(t *testing.T) { // P3.1, P2
	for _, s := range []int{-1, 257, 258, 512, -256, math.MaxInt, math.MinInt, 1 << 32, 1<<32 + 48} {
		if word, bits, e := huff.Code(s); word != 0 || bits != 0 || e != api.ErrArg {
			t.Errorf("Code(%d) = %x, %d, %d, want ErrArg", s, word, bits, e)
		}
	}
}

func TestNoCodeBeginsAnother(t *testing.T) { // P3.3
	var all []string
	for s := range 257 {
		all = append(all, digits(t, s))
	}
	for a, x := range all {
		for b, y := range all {
			if a != b && strings.HasPrefix(y, x) {
				t.Errorf("the code of %d begins the one of %d", a, b)
			}
		}
	}
}

func TestTexts(t *testing.T) { // P3.1, P3.2, P3.3
	for _, c := range []struct{ plain, coded string }{
		{"", ""},
		{"0", "\x07"},
		{"www.example.com", "\xf1\xe3\xc2\xe5\xf2\x3a\x6b\xa0\xab\x90\xf4\xff"},
		{"no-cache", "\xa8\xeb\x10\x64\x9c\xbf"},
		{"custom-key", "\x25\xa8\x49\xe9\x5b\xa9\x7d\x7f"},
		{"custom-value", "\x25\xa8\x49\xe9\x5b\xb8\xe8\xb4\xbf"},
		{"302", "\x64\x02"},
		{"private", "\xae\xc3\x77\x1a\x4b"},
		{"Mon, 21 Oct 2013 20:13:21 GMT", "\xd0\x7a\xbe\x94\x10\x54\xd4\x44\xa8\x20\x05\x95\x04\x0b\x81\x66\xe0\x82\xa6\x2d\x1b\xff"},
		{"&", "\xf8"},
		{"00000000", "\x00\x00\x00\x00\x00"},
		{"\x16", "\xff\xff\xff\xfb"},
		{"\x16\x16\x16\x16", "\xff\xff\xff\xfb\xff\xff\xff\xef\xff\xff\xff\xbf\xff\xff\xfe"},
	} {
		if out := huff.Encode([]byte(c.plain)); string(out) != c.coded {
			t.Errorf("Encode(%q) = % x, want % x", c.plain, out, c.coded)
		}
		if n := huff.Length([]byte(c.plain)); n != len(c.coded) {
			t.Errorf("Length(%q) = %d, want %d", c.plain, n, len(c.coded))
		}
		mustDecode(t, []byte(c.coded), c.plain)
	}
}

func TestPairsOfBytes(t *testing.T) { // P3.1, P3.3: each byte, and each pair of bytes, whatever bit the second begins at
	var codes [256]string
	for s := range codes {
		codes[s] = digits(t, s)
		mustRound(t, []byte{byte(s)}, codes[s])
	}
	for a := range 256 {
		for b := range 256 {
			mustRound(t, []byte{byte(a), byte(b)}, codes[a]+codes[b])
		}
	}
}

func mustRound(t *testing.T, plain []byte, bits string) {
	t.Helper()
	want := pack(t, filled(bits))
	if out := huff.Encode(plain); !bytes.Equal(out, want) {
		t.Fatalf("Encode(% x) = % x, want % x", plain, out, want)
	}
	if n := huff.Length(plain); n != len(want) {
		t.Fatalf("Length(% x) = %d, want %d", plain, n, len(want))
	}
	mustDecode(t, want, string(plain))
}

func TestLongText(t *testing.T) { // P3.1, P3.3
	plain := make([]byte, 3*api.MaxText)
	n := uint32(1)
	for i := range plain {
		n = n*1664525 + 1013904223
		plain[i] = byte(n >> 24)
	}
	var bits strings.Builder
	for _, s := range plain {
		bits.WriteString(digits(t, int(s)))
	}
	mustRound(t, plain, bits.String())
}

func TestNone(t *testing.T) { // P3: nil and empty are the same
	for _, b := range [][]byte{nil, {}} {
		if out := huff.Encode(b); len(out) != 0 {
			t.Errorf("Encode of none = % x", out)
		}
		if n := huff.Length(b); n != 0 {
			t.Errorf("Length of none = %d", n)
		}
		mustDecode(t, b, "")
	}
}

func TestPadding(t *testing.T) { // P3.2: each count of bits left from 1 to 29, all of them 1
	for text, code := range map[string]string{"0": digits(t, '0'), "a": digits(t, 'a'), " ": digits(t, ' '), ":": digits(t, ':'), "&": digits(t, '&')} {
		for count := range 9 {
			bits := strings.Repeat(code, count)
			plain := strings.Repeat(text, count)
			mustDecode(t, pack(t, filled(bits)), plain)
			for longer := filled(bits) + "11111111"; len(longer)-len(bits) < 30; longer += "11111111" {
				mustRefuse(t, pack(t, longer), len(longer)/8, api.ErrPad)
			}
		}
	}
	mustRefuse(t, []byte{0xff}, 1, api.ErrPad)
	mustRefuse(t, []byte{0xff, 0xff}, 2, api.ErrPad)
	mustRefuse(t, []byte{0xff, 0xff, 0xff}, 3, api.ErrPad)
	mustRefuse(t, []byte{0x07, 0xff}, 2, api.ErrPad)
	mustRefuse(t, []byte{0xf8, 0xff}, 2, api.ErrPad)
}

func TestPaddingWithNoughts(t *testing.T) { // P3.2: bits left of which one is 0 are no padding, whichever it is
	for count := range 8 {
		code := strings.Repeat(digits(t, '0'), count)
		room := len(filled(code)) - len(code)
		for fill := range 1 << room {
			tail := ""
			for i := range room {
				tail = string(rune('0'+(fill>>i)&1)) + tail
			}
			b := pack(t, code+tail)
			if begins(t, tail) {
				continue
			}
			if !strings.Contains(tail, "0") {
				mustDecode(t, b, strings.Repeat("0", count))
			} else {
				mustRefuse(t, b, len(b), api.ErrPad)
			}
		}
	}
	mustRefuse(t, []byte{0x00}, 1, api.ErrPad)
	mustRefuse(t, []byte{0x06}, 1, api.ErrPad)
	mustRefuse(t, []byte{0x03}, 1, api.ErrPad)
	mustRefuse(t, []byte{0x52}, 1, api.ErrPad)
	mustRefuse(t, []byte{0xfe}, 1, api.ErrPad)
	mustRefuse(t, []byte{0xff, 0xfe}, 2, api.ErrPad)
	mustRefuse(t, []byte{0x07, 0xf0}, 2, api.ErrPad)
}

// begins tells whether a symbol's code is a beginning of bits.
func begins(t *testing.T, bits string) bool {
	t.Helper()
	for s := range 257 {
		if strings.HasPrefix(bits, digits(t, s)) {
			return true
		}
	}
	return false
}

func TestEnd(t *testing.T) { // P3.2: the end, with the byte of its last bit, wherever it begins
	end := digits(t, 256)
	for count := range 17 {
		head := strings.Repeat(digits(t, 'a'), count)
		last := (len(head+end) - 1) / 8
		mustRefuse(t, pack(t, filled(head+end)), last, api.ErrEos)
		mustRefuse(t, pack(t, filled(head+end)+"1111111111111111"), last, api.ErrEos)
		mustRefuse(t, pack(t, filled(head+end+"0")), last, api.ErrEos)
	}
	mustRefuse(t, []byte{0xff, 0xff, 0xff, 0xff}, 3, api.ErrEos)
	mustRefuse(t, []byte{0xff, 0xff, 0xff, 0xfc}, 3, api.ErrEos)
	mustRefuse(t, []byte{0x07, 0xff, 0xff, 0xff, 0xff}, 4, api.ErrEos)
	mustRefuse(t, []byte{0x07, 0xff, 0xff, 0xff}, 4, api.ErrPad)
}

func TestFirstFault(t *testing.T) { // P3.2: what comes behind the end is not looked at
	end := digits(t, 256)
	mustRefuse(t, pack(t, filled(end)+"00000000"), 3, api.ErrEos)
	mustRefuse(t, pack(t, filled(end+end)), 3, api.ErrEos)
	mustRefuse(t, pack(t, filled(digits(t, '0')+end+end)), 4, api.ErrEos)
}

func TestOneAnswer(t *testing.T) { // P3.3: what is decoded, encoded again, is that row of bytes; it is refused else
	for n := range 1 << 16 {
		mustAnswer(t, []byte{byte(n >> 8), byte(n)})
		mustAnswer(t, []byte{0xff, 0xff, byte(n >> 8), byte(n)})
		mustAnswer(t, []byte{0xff, byte(n>>8) | 0xc0, byte(n), 0xff})
	}
	for n := range 1 << 8 {
		mustAnswer(t, []byte{byte(n)})
	}
}

func mustAnswer(t *testing.T, b []byte) {
	t.Helper()
	out, at, e := huff.Decode(b)
	switch e {
	case api.OK:
		if again := huff.Encode(out); at != 0 || !bytes.Equal(again, b) {
			t.Fatalf("Decode(% x) = % x, %d, and that again % x", b, out, at, again)
		}
	case api.ErrPad:
		if len(out) != 0 || at != len(b) {
			t.Fatalf("Decode(% x) = % x, %d, ErrPad", b, out, at)
		}
	case api.ErrEos:
		if len(out) != 0 || at < 3 || at >= len(b) {
			t.Fatalf("Decode(% x) = % x, %d, ErrEos", b, out, at)
		}
	default:
		t.Fatalf("Decode(% x): %d", b, e)
	}
}

func TestArgumentsStay(t *testing.T) { // P4
	plain, coded := []byte("no-cache"), []byte("\xa8\xeb\x10\x64\x9c\xbf")
	out, back := plainOf(coded), huff.Encode(plain)
	if string(plain) != "no-cache" || string(coded) != "\xa8\xeb\x10\x64\x9c\xbf" {
		t.Fatalf("arguments were changed: %q, % x", plain, coded)
	}
	clear(plain)
	clear(coded)
	if string(out) != "no-cache" || string(back) != "\xa8\xeb\x10\x64\x9c\xbf" {
		t.Errorf("answers share memory with arguments: %q, % x", out, back)
	}
	clear(out)
	clear(back)
	if string(huff.Encode([]byte("no-cache"))) != "\xa8\xeb\x10\x64\x9c\xbf" || string(plainOf([]byte("\xa8\xeb\x10\x64\x9c\xbf"))) != "no-cache" {
		t.Error("answers share memory with one another")
	}
}

func plainOf(coded []byte) []byte {
	out, _, _ := huff.Decode(coded)
	return out
}
