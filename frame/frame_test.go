package frame_test

import (
	"bytes"
	"encoding/hex"
	"math"
	"math/rand"
	"reflect"
	"slices"
	"strings"
	"testing"

	"aqueduct/api"
	"aqueduct/frame"
)

// raw are the bytes of digits of base 16, blanks left out.
func raw(t *testing.T, digits string) []byte {
	t.Helper()
	b, err := hex.DecodeString(strings.ReplaceAll(digits, " ", ""))
	if err != nil {
		t.Fatal(err)
	}
	return b
}

// with is a frame in which something has been set.
func with(f api.Frame, set func(*api.Frame)) api.Frame {
	set(&f)
	return f
}

// same tells whether two frames are the same; nil and empty lists are.
func same(a, b api.Frame) bool {
	if !bytes.Equal(a.Payload, b.Payload) || !slices.Equal(a.Sets, b.Sets) {
		return false
	}
	a.Payload, b.Payload, a.Sets, b.Sets = nil, nil, nil, nil
	return reflect.DeepEqual(a, b)
}

// brief is f as it is told, if it is wrong: with the beginnings of its lists.
func brief(f api.Frame) api.Frame {
	f.Payload = f.Payload[:min(len(f.Payload), 40)]
	f.Sets = f.Sets[:min(len(f.Sets), 10)]
	return f
}

func connFault(code int) api.Fault {
	return api.Fault{Is: true, Code: code}
}

func streamFault(stream, code int) api.Fault {
	return api.Fault{Is: true, Stream: stream, Code: code}
}

func mustWrite(t *testing.T, f api.Frame, want []byte) {
	t.Helper()
	if b, e := frame.Write(f); !bytes.Equal(b, want) || e != api.OK {
		t.Errorf("Write(%v) = % .80x, %d, want % .80x", brief(f), b, e, want)
	}
}

func mustTake(t *testing.T, f api.Frame) []byte {
	t.Helper()
	b, e := frame.Write(f)
	if len(b) < 9 || e != api.OK {
		t.Errorf("Write(%v) = % .80x, %d", brief(f), b, e)
	}
	return b
}

func mustRefuse(t *testing.T, f api.Frame, e api.Errno) {
	t.Helper()
	if b, ge := frame.Write(f); len(b) != 0 || ge != e {
		t.Errorf("Write(%v) = % .80x, %d, want none, %d", brief(f), b, ge, e)
	}
}

// mustParse asks for a whole answer of Parse.
func mustParse(t *testing.T, b []byte, most int, f api.Frame, n int, x api.Fault, e api.Errno) {
	t.Helper()
	gf, gn, gx, ge := frame.Parse(b, most)
	if !same(gf, f) || gn != n || gx != x || ge != e {
		t.Errorf("Parse(% .80x, %d) = %v, %d, %v, %d, want %v, %d, %v, %d", b, most, brief(gf), gn, gx, ge, brief(f), n, x, e)
	}
}

// mustRead asks for the frame that b is.
func mustRead(t *testing.T, b []byte, f api.Frame) {
	t.Helper()
	mustParse(t, b, api.MaxFrame, f, len(b), api.Fault{}, api.OK)
}

// mustFault asks for the fault of the frame that b is.
func mustFault(t *testing.T, b []byte, x api.Fault) {
	t.Helper()
	mustParse(t, b, api.MaxFrame, api.Frame{}, len(b), x, api.OK)
}

// made is a frame of whatever bytes, the head's and those behind it.
func made(kind, flags, stream int, body string) []byte {
	n := len(body)
	b := []byte{byte(n >> 16), byte(n >> 8), byte(n), byte(kind), byte(flags), byte(stream >> 24), byte(stream >> 16), byte(stream >> 8), byte(stream)}
	return append(b, body...)
}

// strange are ints that no field of a head has room for.
func strange() []int {
	return []int{math.MinInt, math.MinInt + 1, -1 << 32, 1 - 1<<32, -256, -1, 1 << 31, 1<<31 + 1, 1 << 32, 1<<32 + 1, 1 << 62, math.MaxInt - 1, math.MaxInt}
}

// sample is a frame, and its bytes.
type sample struct {
	f     api.Frame
	bytes string
}

// samples are frames of all types, with and without all that they can have.
func samples() []sample {
	long := []byte("fragment")
	return []sample{
		{api.Frame{Type: api.FData, Stream: 1, Payload: []byte("abc")}, "000003 00 00 00000001 616263"},
		{api.Frame{Type: api.FData, Stream: api.MaxID, Flags: api.FlagEnd}, "000000 00 01 7fffffff"},
		{api.Frame{Type: api.FData, Stream: 1, Flags: api.FlagPad, Pad: 3, Payload: []byte("ab")}, "000006 00 08 00000001 03 6162 000000"},
		{api.Frame{Type: api.FData, Stream: 1, Flags: api.FlagPad}, "000001 00 08 00000001 00"},
		{api.Frame{Type: api.FData, Stream: 1, Flags: 255 - api.FlagPad, Payload: []byte("abc")}, "000003 00 f7 00000001 616263"},
		{api.Frame{Type: api.FHeaders, Stream: 3, Flags: api.FlagDone, Payload: []byte{0x82}}, "000001 01 04 00000003 82"},
		{api.Frame{Type: api.FHeaders, Stream: 3, Flags: api.FlagDone + api.FlagEnd}, "000000 01 05 00000003"},
		{api.Frame{Type: api.FHeaders, Stream: 3, Flags: api.FlagPrio, Dep: 5, Weight: 1, Payload: []byte("ab")}, "000007 01 20 00000003 00000005 00 6162"},
		{api.Frame{Type: api.FHeaders, Stream: 3, Flags: api.FlagPrio, Dep: api.MaxID, Only: true, Weight: 256}, "000005 01 20 00000003 ffffffff ff"},
		{api.Frame{Type: api.FHeaders, Stream: 3, Flags: api.FlagPad, Pad: 1, Payload: []byte("a")}, "000003 01 08 00000003 01 61 00"},
		{api.Frame{Type: api.FHeaders, Stream: 3, Flags: api.FlagPad + api.FlagPrio, Pad: 2, Dep: 1, Only: true, Weight: 16, Payload: []byte("ab")}, "00000a 01 28 00000003 02 80000001 0f 6162 0000"},
		{api.Frame{Type: api.FPriority, Stream: 5, Dep: 0x01020304, Weight: 200}, "000005 02 00 00000005 01020304 c7"},
		{api.Frame{Type: api.FPriority, Stream: 5, Flags: 255, Only: true, Weight: 1}, "000005 02 ff 00000005 80000000 00"},
		{api.Frame{Type: api.FReset, Stream: 7, Code: api.CCancel}, "000004 03 00 00000007 00000008"},
		{api.Frame{Type: api.FReset, Stream: 7, Flags: 8, Code: math.MaxUint32}, "000004 03 08 00000007 ffffffff"},
		{api.Frame{Type: api.FSettings}, "000000 04 00 00000000"},
		{api.Frame{Type: api.FSettings, Flags: api.FlagAck}, "000000 04 01 00000000"},
		{api.Frame{Type: api.FSettings, Flags: 8, Sets: []api.Setting{{ID: 0, Value: 0}, {ID: 1<<16 - 1, Value: math.MaxUint32}, {ID: 3, Value: 0x80000001}}}, "000012 04 08 00000000 0000 00000000 ffff ffffffff 0003 80000001"},
		{api.Frame{Type: api.FPush, Stream: 9, Flags: api.FlagDone, Last: 2, Payload: []byte("ab")}, "000006 05 04 00000009 00000002 6162"},
		{api.Frame{Type: api.FPush, Stream: 9, Flags: api.FlagPad, Pad: 2, Last: api.MaxID, Payload: []byte("a")}, "000008 05 08 00000009 02 7fffffff 61 0000"},
		{api.Frame{Type: api.FPush, Stream: 9, Flags: api.FlagPrio}, "000004 05 20 00000009 00000000"},
		{api.Frame{Type: api.FPing, Payload: []byte("12345678")}, "000008 06 00 00000000 3132333435363738"},
		{api.Frame{Type: api.FPing, Flags: 255, Payload: make([]byte, 8)}, "000008 06 ff 00000000 0000000000000000"},
		{api.Frame{Type: api.FGoaway, Last: 11, Code: api.CCalm, Payload: []byte("why")}, "00000b 07 00 00000000 0000000b 0000000b 776879"},
		{api.Frame{Type: api.FGoaway, Flags: 8, Last: api.MaxID, Code: math.MaxUint32}, "000008 07 08 00000000 7fffffff ffffffff"},
		{api.Frame{Type: api.FWindow, Inc: 1}, "000004 08 00 00000000 00000001"},
		{api.Frame{Type: api.FWindow, Stream: 3, Flags: 8, Inc: api.MaxWindow}, "000004 08 08 00000003 7fffffff"},
		{api.Frame{Type: api.FContinue, Stream: 3, Payload: long}, "000008 09 00 00000003 667261676d656e74"},
		{api.Frame{Type: api.FContinue, Stream: 3, Flags: 255}, "000000 09 ff 00000003"},
	}
}

// one is an ordinary frame of a type.
func one(kind int) api.Frame {
	for _, s := range samples() {
		if s.f.Type == kind {
			return s.f
		}
	}
	return api.Frame{}
}

func TestExamples(t *testing.T) { // P7.1, P7.2
	mustWrite(t, api.Frame{Type: api.FPing, Payload: []byte("12345678")}, raw(t, "00 00 08 06 00 00 00 00 00 31 32 33 34 35 36 37 38"))
	mustFault(t, raw(t, "00 00 04 08 00 00 00 00 03 00 00 00 00"), streamFault(3, api.CProtocol))
	mustFault(t, raw(t, "00 00 01 00 00 00 00 00 00 61"), connFault(api.CProtocol))
}

func TestWrite(t *testing.T) { // P7.1
	for _, s := range samples() {
		mustWrite(t, s.f, raw(t, s.bytes))
	}
}

func TestParse(t *testing.T) { // P7.2
	for _, s := range samples() {
		mustRead(t, raw(t, s.bytes), s.f)
	}
}

func TestWriteHead(t *testing.T) { // P7.1, P1, P6
	for kind := range 10 {
		f := one(kind)
		for _, n := range append(strange(), 256) {
			mustRefuse(t, with(f, func(f *api.Frame) { f.Flags = n }), api.ErrArg)
		}
		for _, n := range strange() {
			mustRefuse(t, with(f, func(f *api.Frame) { f.Stream = n }), api.ErrArg)
		}
		for _, n := range append(strange(), 10, 11, 99, 255, 256, 256+kind) {
			mustRefuse(t, with(f, func(f *api.Frame) { f.Type = n }), api.ErrArg)
		}
	}
}

func TestWriteStream(t *testing.T) { // P7.1
	for kind := range 10 {
		none := kind == api.FSettings || kind == api.FPing || kind == api.FGoaway
		for _, stream := range []int{0, 1, 2, 1 << 30, api.MaxID} {
			f := with(one(kind), func(f *api.Frame) { f.Stream = stream })
			if kind == api.FWindow || none == (stream == 0) {
				mustTake(t, f)
			} else {
				mustRefuse(t, f, api.ErrArg)
			}
		}
	}
}

// padding are frames of the types that can be padded.
func padding() []api.Frame {
	return []api.Frame{one(api.FData), one(api.FHeaders), one(api.FPush)}
}

func TestWritePad(t *testing.T) { // P7.1
	for _, f := range padding() {
		f.Flags = 255 - api.FlagPad - api.FlagPrio
		for _, n := range append(strange(), 1, 2, 255, 256) {
			mustRefuse(t, with(f, func(f *api.Frame) { f.Pad = n }), api.ErrArg)
		}
		short := mustTake(t, f)
		f.Flags += api.FlagPad
		for n := range 256 {
			f.Pad = n
			b := mustTake(t, f)
			if len(b) != len(short)+1+n || int(b[9]) != n || !bytes.Equal(b[len(b)-n:], make([]byte, n)) {
				t.Errorf("Write(%v) = % x", f, b)
			}
		}
		for _, n := range append(strange(), 256, 257) {
			mustRefuse(t, with(f, func(f *api.Frame) { f.Pad = n }), api.ErrArg)
		}
	}
}

func TestWritePing(t *testing.T) { // P7.1
	for n := range 20 {
		f := api.Frame{Type: api.FPing, Payload: make([]byte, n)}
		if n == 8 {
			mustTake(t, f)
		} else {
			mustRefuse(t, f, api.ErrArg)
		}
	}
	mustRefuse(t, api.Frame{Type: api.FPing}, api.ErrArg)
	mustRefuse(t, api.Frame{Type: api.FPing, Payload: make([]byte, api.MaxFrame+1)}, api.ErrArg)
}

func TestWriteInc(t *testing.T) { // P7.1
	for _, stream := range []int{0, 1} {
		for _, n := range append(strange(), 0) {
			mustRefuse(t, api.Frame{Type: api.FWindow, Stream: stream, Inc: n}, api.ErrArg)
		}
		for _, n := range []int{1, 2, 1<<16 - 1, 1 << 30, api.MaxWindow} {
			mustTake(t, api.Frame{Type: api.FWindow, Stream: stream, Inc: n})
		}
	}
}

func TestWriteLast(t *testing.T) { // P7.1
	for _, f := range []api.Frame{one(api.FPush), one(api.FGoaway)} {
		for _, n := range strange() {
			mustRefuse(t, with(f, func(f *api.Frame) { f.Last = n }), api.ErrArg)
		}
		for _, n := range []int{0, 1, 2, 1 << 30, api.MaxID} {
			mustTake(t, with(f, func(f *api.Frame) { f.Last = n }))
		}
	}
}

// prior are frames in which a priority is written.
func prior() []api.Frame {
	return []api.Frame{
		{Type: api.FPriority, Stream: 1, Weight: 1},
		{Type: api.FHeaders, Stream: 1, Weight: 1, Flags: api.FlagPrio},
		{Type: api.FHeaders, Stream: 1, Weight: 1, Flags: 255, Pad: 9},
	}
}

func TestWritePriority(t *testing.T) { // P7.1
	for _, f := range prior() {
		for _, n := range strange() {
			mustRefuse(t, with(f, func(f *api.Frame) { f.Dep = n }), api.ErrArg)
		}
		for _, n := range []int{0, 1, 2, 1 << 30, api.MaxID} {
			mustTake(t, with(f, func(f *api.Frame) { f.Dep = n }))
		}
		for _, n := range append(strange(), 0, 257, 258, 512) {
			mustRefuse(t, with(f, func(f *api.Frame) { f.Weight = n }), api.ErrArg)
		}
		for _, n := range []int{1, 2, 16, 128, 255, 256} {
			mustTake(t, with(f, func(f *api.Frame) { f.Weight = n }))
		}
	}
}

func TestWriteSettings(t *testing.T) { // P7.1
	sets := func(ids ...int) []api.Setting {
		var l []api.Setting
		for _, id := range ids {
			l = append(l, api.Setting{ID: id, Value: 5})
		}
		return l
	}
	for _, n := range append(strange(), 1<<16, 1<<16+1, 1<<24) {
		for _, l := range [][]api.Setting{sets(n), sets(1, n), sets(n, 1), sets(1, n, 2)} {
			mustRefuse(t, api.Frame{Type: api.FSettings, Sets: l}, api.ErrArg)
		}
	}
	for _, n := range []int{0, 1, 7, 255, 256, 1<<16 - 1} {
		mustTake(t, api.Frame{Type: api.FSettings, Sets: sets(n, 1, n)})
		mustTake(t, api.Frame{Type: api.FSettings, Flags: 254, Sets: sets(n)})
		for _, flags := range []int{api.FlagAck, 3, 255} {
			mustRefuse(t, api.Frame{Type: api.FSettings, Flags: flags, Sets: sets(n)}, api.ErrArg)
		}
	}
	mustTake(t, api.Frame{Type: api.FSettings, Flags: api.FlagAck, Sets: []api.Setting{}})
}

// fill is f with the fields that its type and flags do not use as they are in other.
func fill(f, other api.Frame) api.Frame {
	w := other
	w.Type, w.Flags, w.Stream = f.Type, f.Flags, f.Stream
	switch f.Type {
	case api.FData, api.FHeaders, api.FPush:
		w.Payload, w.Pad = f.Payload, f.Pad
	case api.FPing, api.FGoaway, api.FContinue:
		w.Payload = f.Payload
	case api.FSettings:
		w.Sets = f.Sets
	case api.FWindow:
		w.Inc = f.Inc
	}
	if f.Type == api.FReset || f.Type == api.FGoaway {
		w.Code = f.Code
	}
	if f.Type == api.FPush || f.Type == api.FGoaway {
		w.Last = f.Last
	}
	if f.Type == api.FPriority || f.Type == api.FHeaders && f.Flags&api.FlagPrio != 0 {
		w.Dep, w.Only, w.Weight = f.Dep, f.Only, f.Weight
	}
	return w
}

func TestWriteUnused(t *testing.T) { // P7.1
	wrong := api.Frame{Payload: []byte("none"), Pad: -7, Code: 99, Last: -1, Inc: -2, Dep: math.MaxInt, Only: true, Sets: []api.Setting{{ID: -1}}}
	for _, s := range samples() {
		mustWrite(t, fill(s.f, wrong), raw(t, s.bytes))
	}
}

// full is a frame, and how many bytes stand beside its payload.
type full struct {
	f    api.Frame
	less int
}

func fulls() []full {
	return []full{
		{api.Frame{Type: api.FData, Stream: 1}, 0},
		{api.Frame{Type: api.FData, Stream: 1, Flags: api.FlagPad}, 1},
		{api.Frame{Type: api.FData, Stream: 1, Flags: api.FlagPad, Pad: 255}, 256},
		{api.Frame{Type: api.FHeaders, Stream: 1}, 0},
		{api.Frame{Type: api.FHeaders, Stream: 1, Flags: api.FlagPrio, Weight: 1}, 5},
		{api.Frame{Type: api.FHeaders, Stream: 1, Flags: api.FlagPrio + api.FlagPad, Weight: 1, Pad: 1}, 7},
		{api.Frame{Type: api.FPush, Stream: 1}, 4},
		{api.Frame{Type: api.FPush, Stream: 1, Flags: api.FlagPad, Pad: 2}, 7},
		{api.Frame{Type: api.FGoaway}, 8},
		{api.Frame{Type: api.FContinue, Stream: 1}, 0},
	}
}

func TestWriteLong(t *testing.T) { // P7.1
	room := bytes.Repeat([]byte("x"), api.MaxFrame+1)
	for _, c := range fulls() {
		c.f.Payload = room[:api.MaxFrame-c.less]
		b := mustTake(t, c.f)
		if len(b) != 9+api.MaxFrame || string(b[:3]) != "\xff\xff\xff" {
			t.Errorf("Write of a full frame of type %d: %d bytes", c.f.Type, len(b))
		}
		mustRead(t, b, c.f)
		for _, more := range []int{1, 1 + c.less} {
			c.f.Payload = room[:api.MaxFrame-c.less+more]
			mustRefuse(t, c.f, api.ErrLong)
		}
	}
}

func TestWriteLongSettings(t *testing.T) { // P7.1
	most := api.MaxFrame / 6
	l := make([]api.Setting, most+1)
	for i := range l {
		l[i] = api.Setting{ID: i & 0xffff, Value: uint32(i)}
	}
	f := api.Frame{Type: api.FSettings, Sets: l[:most]}
	b := mustTake(t, f)
	if len(b) != 9+6*most {
		t.Errorf("Write of %d settings: %d bytes", most, len(b))
	}
	mustRead(t, b, f)
	f.Sets = l
	mustRefuse(t, f, api.ErrLong)
	f.Flags = api.FlagAck
	mustRefuse(t, f, api.ErrArg)
	f.Flags = 0
	l[most].ID = -1
	mustRefuse(t, f, api.ErrArg)
}

func TestWriteOrder(t *testing.T) { // P7.1, P2: what can't be goes ahead of what is too long
	long := make([]byte, api.MaxFrame+1)
	for _, c := range fulls() {
		c.f.Payload = long
		mustRefuse(t, with(c.f, func(f *api.Frame) { f.Flags = 256 }), api.ErrArg)
		mustRefuse(t, with(c.f, func(f *api.Frame) { f.Stream ^= 1 }), api.ErrArg)
		if c.f.Type != api.FGoaway && c.f.Type != api.FContinue {
			mustRefuse(t, with(c.f, func(f *api.Frame) { f.Pad = 256 }), api.ErrArg)
		}
		if c.f.Flags&api.FlagPrio != 0 {
			mustRefuse(t, with(c.f, func(f *api.Frame) { f.Weight = 0 }), api.ErrArg)
			mustRefuse(t, with(c.f, func(f *api.Frame) { f.Dep = -1 }), api.ErrArg)
		}
		if c.f.Type == api.FGoaway || c.f.Type == api.FPush {
			mustRefuse(t, with(c.f, func(f *api.Frame) { f.Last = -1 }), api.ErrArg)
		}
	}
}

func TestWriteLeaves(t *testing.T) { // P4
	for _, s := range samples() {
		was, sets := bytes.Clone(s.f.Payload), slices.Clone(s.f.Sets)
		one := mustTake(t, s.f)
		for i := range one {
			one[i] ^= 255
		}
		_ = append(one, 255)
		if !bytes.Equal(s.f.Payload, was) || !slices.Equal(s.f.Sets, sets) {
			t.Errorf("Write changed %v", s.f)
		}
		mustWrite(t, s.f, raw(t, s.bytes))
	}
	room := []byte("12345678ab")
	mustTake(t, api.Frame{Type: api.FData, Flags: api.FlagPad, Pad: 2, Stream: 1, Payload: room[:8]})
	if string(room) != "12345678ab" {
		t.Errorf("Write changed bytes behind a payload: %s", room)
	}
}

func mustHead(t *testing.T, b []byte, size, kind, flags, stream int, e api.Errno) {
	t.Helper()
	gsize, gkind, gflags, gstream, ge := frame.Head(b)
	if gsize != size || gkind != kind || gflags != flags || gstream != stream || ge != e {
		t.Errorf("Head(% x) = %d, %d, %d, %d, %d, want %d, %d, %d, %d, %d", b, gsize, gkind, gflags, gstream, ge, size, kind, flags, stream, e)
	}
}

func TestHead(t *testing.T) { // P7.2
	mustHead(t, raw(t, "010203 04 05 06070809"), 0x010203, 4, 5, 0x06070809, api.OK)
	mustHead(t, raw(t, "010203 04 05 06070809 ffff"), 0x010203, 4, 5, 0x06070809, api.OK)
	mustHead(t, raw(t, "ffffff ff ff ffffffff"), api.MaxFrame, 255, 255, api.MaxID, api.OK)
	mustHead(t, raw(t, "ffffff ff ff 7fffffff"), api.MaxFrame, 255, 255, api.MaxID, api.OK)
	mustHead(t, raw(t, "000000 00 00 80000000"), 0, 0, 0, 0, api.OK)
	mustHead(t, raw(t, "000000 00 00 80000001"), 0, 0, 0, 1, api.OK)
	mustHead(t, make([]byte, 9), 0, 0, 0, 0, api.OK)
	whole := bytes.Repeat([]byte{255}, 9)
	for n := range 9 {
		mustHead(t, whole[:n], 0, 0, 0, 0, api.ErrShort)
	}
	mustHead(t, nil, 0, 0, 0, 0, api.ErrShort)
}

func TestParseMost(t *testing.T) { // P7.2, P2, P6
	none, fault := api.Frame{}, connFault(api.CSize)
	ping := raw(t, "000008 06 00 00000000 3132333435363738")
	for _, most := range []int{math.MinInt, math.MinInt + 1, -1 << 32, -9, -1} {
		for _, b := range [][]byte{nil, ping[:8], ping[:9], ping} {
			mustParse(t, b, most, none, 0, api.Fault{}, api.ErrArg)
		}
	}
	for _, most := range []int{0, 1, 7} {
		for n := range 9 {
			mustParse(t, ping[:n], most, none, 0, api.Fault{}, api.ErrShort)
		}
		for n := 9; n <= len(ping); n++ {
			mustParse(t, ping[:n], most, none, 9, fault, api.OK)
		}
	}
	for _, most := range []int{8, 9, api.MinFrame, api.MaxFrame, api.MaxFrame + 1, 1 << 32, math.MaxInt - 1, math.MaxInt} {
		for n := range ping {
			mustParse(t, ping[:n], most, none, 0, api.Fault{}, api.ErrShort)
		}
		mustParse(t, ping, most, one(api.FPing), 17, api.Fault{}, api.OK)
	}
	mustParse(t, raw(t, "000000 04 00 00000000"), 0, api.Frame{Type: api.FSettings}, 9, api.Fault{}, api.OK)
	mustParse(t, raw(t, "ffffff 00 00 00000001"), api.MaxFrame-1, none, 9, fault, api.OK)
	mustParse(t, raw(t, "ffffff 00 00 00000001"), api.MaxFrame, none, 0, api.Fault{}, api.ErrShort)
}

func TestParseLongGoesFirst(t *testing.T) { // P7.2: ahead of what is wrong with the frame, of whatever type
	for kind := range 256 {
		b := made(kind, 255, 0, strings.Repeat("\xff", 11))
		for n := 9; n <= len(b); n++ {
			mustParse(t, b[:n], 10, api.Frame{}, 9, connFault(api.CSize), api.OK)
		}
		b = made(kind, 255, 5, strings.Repeat("\xff", 11))
		mustParse(t, b, 10, api.Frame{}, 9, connFault(api.CSize), api.OK)
	}
}

func TestParseShortGoesFirst(t *testing.T) { // P7.2: a fault is none till the frame is whole
	for kind := range 256 {
		for _, stream := range []int{0, 5} {
			b := made(kind, 255, stream, strings.Repeat("\xff", 11))
			for n := range b {
				mustParse(t, b[:n], 11, api.Frame{}, 0, api.Fault{}, api.ErrShort)
			}
		}
	}
}

func TestParseStream(t *testing.T) { // P7.2: ahead of every other fault
	for _, kind := range []int{api.FData, api.FHeaders, api.FPriority, api.FReset, api.FPush, api.FContinue} {
		for _, body := range []string{"", "a", "abcd", "abcde", "\xffabcdefgh"} {
			for _, flags := range []int{0, 255} {
				mustFault(t, made(kind, flags, 0, body), connFault(api.CProtocol))
				mustFault(t, made(kind, flags, 1<<31, body), connFault(api.CProtocol))
			}
		}
	}
	for _, kind := range []int{api.FSettings, api.FPing, api.FGoaway} {
		for _, body := range []string{"", "a", "abcdef", "abcdefgh"} {
			for _, stream := range []int{1, 2, api.MaxID, 1<<31 + 1} {
				mustFault(t, made(kind, 0, stream, body), connFault(api.CProtocol))
				mustFault(t, made(kind, 255, stream, body), connFault(api.CProtocol))
			}
		}
	}
}

func TestParseSize(t *testing.T) { // P7.2
	for n := range 40 {
		body := strings.Repeat("\xff", n)
		if n != 5 {
			mustFault(t, made(api.FPriority, 0, 5, body), streamFault(5, api.CSize))
			mustFault(t, made(api.FPriority, 255, -1, body), streamFault(api.MaxID, api.CSize))
		}
		if n != 4 {
			mustFault(t, made(api.FReset, 0, 5, body), connFault(api.CSize))
			mustFault(t, made(api.FWindow, 0, 5, body), connFault(api.CSize))
			mustFault(t, made(api.FWindow, 0, 0, strings.Repeat("\x00", n)), connFault(api.CSize))
		}
		if n%6 != 0 {
			mustFault(t, made(api.FSettings, 0, 0, body), connFault(api.CSize))
		}
		if n > 0 {
			mustFault(t, made(api.FSettings, api.FlagAck, 0, body), connFault(api.CSize))
			mustFault(t, made(api.FSettings, 255, 0, body), connFault(api.CSize))
		}
		if n != 8 {
			mustFault(t, made(api.FPing, n, 0, body), connFault(api.CSize))
		}
		if n < 8 {
			mustFault(t, made(api.FGoaway, n, 0, body), connFault(api.CSize))
		}
	}
}

func TestParsePad(t *testing.T) { // P7.2
	size, protocol := connFault(api.CSize), connFault(api.CProtocol)
	for _, c := range []struct{ kind, flags, lead int }{
		{api.FData, 0, 0},
		{api.FData, api.FlagPrio, 0},
		{api.FHeaders, 0, 0},
		{api.FHeaders, api.FlagPrio, 5},
		{api.FPush, 0, 4},
		{api.FPush, api.FlagPrio, 4},
	} {
		for n := range c.lead {
			mustFault(t, made(c.kind, c.flags, 1, strings.Repeat("\x00", n)), size)
			mustFault(t, made(c.kind, c.flags+api.FlagPad, 1, "\x00"+strings.Repeat("\x00", n)), size)
			mustFault(t, made(c.kind, c.flags+api.FlagPad, 1, "\xff"+strings.Repeat("\x00", n)), size)
		}
		mustFault(t, made(c.kind, c.flags+api.FlagPad, 1, ""), size)
		for left := range 260 {
			for _, pad := range []int{0, 1, left - 1, left, left + 1, 255} {
				if pad < 0 || pad > 255 {
					continue
				}
				lead, rest := strings.Repeat("\x00", c.lead), strings.Repeat("abc", left)[:left]
				b := made(c.kind, c.flags+api.FlagPad, 1, string([]byte{byte(pad)})+lead+rest)
				if pad > left {
					mustFault(t, b, protocol)
					continue
				}
				f := api.Frame{Type: c.kind, Flags: c.flags + api.FlagPad, Stream: 1, Pad: pad, Payload: []byte(rest[:left-pad])}
				if c.lead == 5 {
					f.Weight = 1
				}
				mustRead(t, b, f)
			}
		}
	}
}

func TestParseWindow(t *testing.T) { // P7.2: the highest bit counts for nothing
	for _, inc := range []string{"\x00\x00\x00\x00", "\x80\x00\x00\x00"} {
		for _, flags := range []int{0, 255} {
			mustFault(t, made(api.FWindow, flags, 0, inc), connFault(api.CProtocol))
			mustFault(t, made(api.FWindow, flags, 1<<31, inc), connFault(api.CProtocol))
			mustFault(t, made(api.FWindow, flags, 3, inc), streamFault(3, api.CProtocol))
			mustFault(t, made(api.FWindow, flags, -1, inc), streamFault(api.MaxID, api.CProtocol))
		}
	}
	mustRead(t, made(api.FWindow, 0, 3, "\xff\xff\xff\xff"), api.Frame{Type: api.FWindow, Stream: 3, Inc: api.MaxWindow})
	mustRead(t, made(api.FWindow, 0, 0, "\x80\x00\x00\x01"), api.Frame{Type: api.FWindow, Inc: 1})
}

func TestParseHighBits(t *testing.T) { // P7.2, P7.3: of streams' numbers they count for nothing
	mustRead(t, made(api.FGoaway, 0, 1<<31, "\xff\xff\xff\xff\xff\xff\xff\xff"), api.Frame{Type: api.FGoaway, Last: api.MaxID, Code: math.MaxUint32})
	mustRead(t, made(api.FPush, 0, 1<<31+5, "\x80\x00\x00\x02"), api.Frame{Type: api.FPush, Stream: 5, Last: 2})
	for _, s := range samples() {
		b := raw(t, s.bytes)
		b[5] |= 0x80
		mustRead(t, b, s.f)
	}
}

func TestParsePaddingCountsForNothing(t *testing.T) { // P7.2
	mustRead(t, made(api.FData, api.FlagPad, 1, "\x02ab\xff\x01"), api.Frame{Type: api.FData, Flags: api.FlagPad, Stream: 1, Pad: 2, Payload: []byte("ab")})
}

func TestParseUnknown(t *testing.T) { // P7.2
	for kind := 10; kind < 256; kind++ {
		for _, stream := range []int{0, 1, api.MaxID} {
			for _, body := range []string{"", "\xff", "abcdefghijkl"} {
				for _, flags := range []int{0, api.FlagPad, 255} {
					b := append(made(kind, flags, stream, body), 7)
					mustParse(t, b, len(body), api.Frame{Type: kind, Flags: flags, Stream: stream}, 9+len(body), api.Fault{}, api.OK)
				}
			}
		}
	}
}

func TestKnown(t *testing.T) { // P7.2
	for kind := -300; kind < 600; kind++ {
		if frame.Known(kind) != (kind >= 0 && kind <= 9) {
			t.Errorf("Known(%d) = %v", kind, frame.Known(kind))
		}
	}
	for _, kind := range strange() {
		if frame.Known(kind) {
			t.Errorf("Known(%d)", kind)
		}
	}
}

func TestParseNewMemory(t *testing.T) { // P4
	for _, s := range samples() {
		b := append(raw(t, s.bytes), "behind"...)
		was := bytes.Clone(b)
		one, _, _, _ := frame.Parse(b, 100)
		two, _, _, _ := frame.Parse(b, 100)
		for i := range one.Payload {
			one.Payload[i] ^= 255
		}
		_ = append(one.Payload, "zzzzzzzz"...)
		if !bytes.Equal(b, was) || !same(two, s.f) {
			t.Errorf("the frame %v shares memory", s.f)
		}
		for i := range b {
			b[i] ^= 255
		}
		if !same(two, s.f) {
			t.Errorf("the frame %v lies in what was handed in", s.f)
		}
	}
}

func TestParseWithinLength(t *testing.T) { // P5: bytes behind the length are none
	whole := raw(t, "000008 06 00 00000000 3132333435363738")
	for n := range whole {
		mustParse(t, whole[:n:len(whole)], 100, api.Frame{}, 0, api.Fault{}, api.ErrShort)
	}
}

// number draws one of least to most, the ends often.
func number(r *rand.Rand, least, most int) int {
	switch r.Intn(4) {
	case 0:
		return least
	case 1:
		return most
	}
	return least + r.Intn(most-least+1)
}

// drawn is a frame that can be written, with nothing in the fields that it does not use.
func drawn(r *rand.Rand) api.Frame {
	f := api.Frame{Type: r.Intn(10), Flags: r.Intn(256), Stream: number(r, 1, api.MaxID)}
	payload := make([]byte, r.Intn(20))
	r.Read(payload)
	f.Payload = payload
	f.Last, f.Code = number(r, 0, api.MaxID), r.Uint32()
	f.Inc, f.Dep = number(r, 1, api.MaxWindow), number(r, 0, api.MaxID)
	f.Only, f.Weight = r.Intn(2) == 1, number(r, 1, 256)
	for range r.Intn(4) {
		f.Sets = append(f.Sets, api.Setting{ID: number(r, 0, 1<<16-1), Value: r.Uint32()})
	}
	switch f.Type {
	case api.FSettings, api.FPing, api.FGoaway:
		f.Stream = 0
	case api.FWindow:
		f.Stream *= r.Intn(2)
	}
	if f.Type == api.FPing {
		f.Payload = bytes.Repeat([]byte{byte(f.Code)}, 8)
	}
	if f.Flags&api.FlagAck != 0 {
		f.Sets = nil
	}
	if f.Flags&api.FlagPad != 0 {
		f.Pad = number(r, 0, 255)
	}
	return fill(f, api.Frame{})
}

func TestReadBack(t *testing.T) { // P7.3
	r := rand.New(rand.NewSource(7))
	for range 20000 {
		f := drawn(r)
		b := mustTake(t, f)
		for _, behind := range []string{"", "\x00", "\xff\xff", string(b)} {
			mustParse(t, append(bytes.Clone(b), behind...), len(b)-9, f, len(b), api.Fault{}, api.OK)
		}
		if size, kind, flags, stream, e := frame.Head(b); size != len(b)-9 || kind != f.Type || flags != f.Flags || stream != f.Stream || e != api.OK {
			t.Errorf("Head(% x) = %d, %d, %d, %d, %d", b, size, kind, flags, stream, e)
		}
	}
}

func TestReadBackInRow(t *testing.T) { // P7.3: between any bytes
	r := rand.New(rand.NewSource(8))
	var all []byte
	var list []api.Frame
	for range 2000 {
		list = append(list, drawn(r))
		all = append(all, mustTake(t, list[len(list)-1])...)
	}
	for _, f := range list {
		got, n, x, e := frame.Parse(all, api.MinFrame)
		if !same(got, f) || x.Is || e != api.OK {
			t.Fatalf("Parse = %v, %d, %v, %d, want %v", got, n, x, e, f)
		}
		all = all[n:]
	}
	if len(all) != 0 {
		t.Errorf("%d bytes are left", len(all))
	}
}

func TestEachBitTold(t *testing.T) { // P7.3: but for padding, and bits that count for nothing
	for _, s := range samples() {
		b := raw(t, s.bytes)
		for i := range len(b) - s.f.Pad {
			for bit := range 8 {
				was := b[i]
				b[i] ^= 1 << bit
				f, n, x, e := frame.Parse(b, api.MaxFrame)
				told := !same(f, s.f) || n != len(b) || x.Is || e != api.OK
				if told == countsForNothing(s.f, i, bit) {
					t.Errorf("of % x the bit %d of byte %d: told %v", b, bit, i, told)
				}
				b[i] = was
			}
		}
	}
}

// countsForNothing tells whether a bit is the highest one of a stream's number or an increment.
func countsForNothing(f api.Frame, at, bit int) bool {
	word := 9
	if f.Type == api.FPush && f.Flags&api.FlagPad != 0 {
		word = 10
	}
	has := f.Type == api.FPush || f.Type == api.FGoaway || f.Type == api.FWindow
	return bit == 7 && (at == 5 || has && at == word)
}

// model reads a whole frame as the document's table tells it, type by type.
func model(b []byte) (api.Frame, api.Fault) {
	kind, flags, p := int(b[3]), int(b[4]), b[9:]
	word := func(b []byte) int { return int(b[0]&127)<<24 | int(b[1])<<16 | int(b[2])<<8 | int(b[3]) }
	code := func(b []byte) uint32 { return uint32(b[0]>>7)<<31 | uint32(word(b)) }
	f := api.Frame{Type: kind, Flags: flags, Stream: word(b[5:9])}
	size, protocol := connFault(api.CSize), connFault(api.CProtocol)
	if kind < 10 && kind != 8 && (kind == 4 || kind == 6 || kind == 7) != (f.Stream == 0) {
		return api.Frame{}, protocol
	}
	switch {
	case kind == 2 && len(p) != 5:
		return api.Frame{}, streamFault(f.Stream, api.CSize)
	case kind == 3 && len(p) != 4, kind == 4 && (len(p)%6 != 0 || flags&1 == 1 && len(p) > 0), kind == 6 && len(p) != 8, kind == 7 && len(p) < 8, kind == 8 && len(p) != 4:
		return api.Frame{}, size
	}
	if flags&8 != 0 && (kind == 0 || kind == 1 || kind == 5) {
		if len(p) == 0 {
			return api.Frame{}, size
		}
		f.Pad, p = int(p[0]), p[1:]
	}
	if kind == 2 || kind == 1 && flags&32 != 0 {
		if len(p) < 5 {
			return api.Frame{}, size
		}
		f.Dep, f.Only, f.Weight, p = word(p), p[0] >= 128, int(p[4])+1, p[5:]
	}
	switch kind {
	case 3:
		f.Code, p = code(p), nil
	case 4:
		for ; len(p) > 0; p = p[6:] {
			f.Sets = append(f.Sets, api.Setting{ID: int(p[0])<<8 | int(p[1]), Value: code(p[2:])})
		}
	case 5:
		if len(p) < 4 {
			return api.Frame{}, size
		}
		f.Last, p = word(p), p[4:]
	case 7:
		f.Last, f.Code, p = word(p), code(p[4:]), p[8:]
	case 8:
		if f.Inc, p = word(p), nil; f.Inc == 0 {
			return api.Frame{}, streamFault(f.Stream, api.CProtocol)
		}
	}
	if f.Pad > len(p) {
		return api.Frame{}, protocol
	}
	if kind < 10 {
		f.Payload = p[:len(p)-f.Pad]
	}
	return f, api.Fault{}
}

func TestModel(t *testing.T) { // P7.2, P1
	r := rand.New(rand.NewSource(9))
	flags := []int{0, api.FlagAck, api.FlagPad, api.FlagPrio, api.FlagPad + api.FlagPrio, api.FlagDone, 254, 255}
	streams := []int{0, 1, 1 << 31, 1<<31 + 3, -1}
	for kind := range 12 {
		for _, flag := range flags {
			for _, stream := range streams {
				for size := range 26 {
					for range 6 {
						body := make([]byte, size)
						for i := range body {
							body[i] = []byte{0, 1, 4, 8, 9, 128, 255, byte(r.Intn(256))}[r.Intn(8)]
						}
						if r.Intn(4) == 0 {
							clear(body)
						}
						if size > 0 && r.Intn(2) == 0 {
							body[0] = byte(r.Intn(size + 1))
						}
						b := made(kind, flag, stream, string(body))
						f, x := model(b)
						mustParse(t, b, size, f, len(b), x, api.OK)
					}
				}
			}
		}
	}
}

func TestNothing(t *testing.T) { // P1, P3
	mustParse(t, nil, 0, api.Frame{}, 0, api.Fault{}, api.ErrShort)
	mustParse(t, []byte{}, 0, api.Frame{}, 0, api.Fault{}, api.ErrShort)
	mustRefuse(t, api.Frame{}, api.ErrArg)
	mustWrite(t, api.Frame{Type: api.FData, Stream: 1, Payload: []byte{}}, raw(t, "000000 00 00 00000001"))
	mustWrite(t, api.Frame{Type: api.FSettings, Sets: []api.Setting{}}, raw(t, "000000 04 00 00000000"))
}
