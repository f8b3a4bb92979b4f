package reader_test

import (
	"bytes"
	"encoding/hex"
	"math"
	"math/rand"
	"reflect"
	"runtime"
	"slices"
	"strings"
	"testing"

	"aqueduct/api"
	"aqueduct/frame"
	"aqueduct/reader"
)

// raw are the bytes of digits of base 16, blanks left out.
func raw(t *testing.T, digits string) []byte {
	t.Helper()
	b, err := hex.DecodeString(strings.ReplaceAll(digits, " ", ""))
	if err != nil {
		t.Fatal(err)
	}
	return b
}

// made is a frame of whatever bytes, the head's and those behind it.
func made(kind, flags, stream int, body string) []byte {
	n := len(body)
	b := []byte{byte(n >> 16), byte(n >> 8), byte(n), byte(kind), byte(flags), byte(stream >> 24), byte(stream >> 16), byte(stream >> 8), byte(stream)}
	return append(b, body...)
}

// written are a frame's bytes.
func written(t *testing.T, f api.Frame) []byte {
	t.Helper()
	b, e := frame.Write(f)
	if e != api.OK {
		t.Fatalf("Write(%v): %d", brief(f), e)
	}
	return b
}

// ping is a PING with eight bytes.
func ping(text string) api.Frame {
	return api.Frame{Type: api.FPing, Payload: []byte(text)}
}

// same tells whether two frames are the same; nil and empty lists are.
func same(a, b api.Frame) bool {
	if !bytes.Equal(a.Payload, b.Payload) || !slices.Equal(a.Sets, b.Sets) {
		return false
	}
	a.Payload, b.Payload, a.Sets, b.Sets = nil, nil, nil, nil
	return reflect.DeepEqual(a, b)
}

// brief is f as it is told, if it is wrong: with the beginnings of its lists.
func brief(f api.Frame) api.Frame {
	f.Payload = f.Payload[:min(len(f.Payload), 40)]
	f.Sets = f.Sets[:min(len(f.Sets), 10)]
	return f
}

func connFault(code int) api.Fault {
	return api.Fault{Is: true, Code: code}
}

func streamFault(stream, code int) api.Fault {
	return api.Fault{Is: true, Stream: stream, Code: code}
}

func mustNew(t *testing.T, most int) *reader.Reader {
	t.Helper()
	r, e := reader.New(most)
	if r == nil || e != api.OK {
		t.Fatalf("New(%d) = %v, %d", most, r, e)
	}
	return r
}

func mustFeed(t *testing.T, r *reader.Reader, b []byte) {
	t.Helper()
	if e := r.Feed(b); e != api.OK {
		t.Fatalf("Feed(% .40x) = %d", b, e)
	}
}

// mustTell asks for a whole answer of Next.
func mustTell(t *testing.T, r *reader.Reader, f api.Frame, there bool, bad api.Fault) {
	t.Helper()
	gf, gthere, gbad := r.Next()
	if !same(gf, f) || gthere != there || gbad != bad {
		t.Fatalf("Next() = %v, %v, %v, want %v, %v, %v", brief(gf), gthere, gbad, brief(f), there, bad)
	}
}

func mustFrame(t *testing.T, r *reader.Reader, f api.Frame) {
	t.Helper()
	mustTell(t, r, f, true, api.Fault{})
}

func mustWait(t *testing.T, r *reader.Reader) {
	t.Helper()
	mustTell(t, r, api.Frame{}, false, api.Fault{})
}

func mustFault(t *testing.T, r *reader.Reader, bad api.Fault) {
	t.Helper()
	mustTell(t, r, api.Frame{}, false, bad)
}

// mustBe asks for what the reader tells of itself.
func mustBe(t *testing.T, r *reader.Reader, rest int, failed bool) {
	t.Helper()
	if r.Rest() != rest || r.Failed() != failed {
		t.Fatalf("Rest() = %d, Failed() = %v, want %d, %v", r.Rest(), r.Failed(), rest, failed)
	}
}

// mustHaveFailed asks for all that is so of a reader that has failed.
func mustHaveFailed(t *testing.T, r *reader.Reader, rest int, bad api.Fault) {
	t.Helper()
	for range 3 {
		mustFault(t, r, bad)
		mustBe(t, r, rest, true)
		for _, b := range [][]byte{nil, {}, {0}, written(t, ping("12345678")), make([]byte, 1000)} {
			if e := r.Feed(b); e != api.ErrState {
				t.Fatalf("Feed(% .40x) = %d, want %d", b, e, api.ErrState)
			}
			mustBe(t, r, rest, true)
		}
	}
}

// strange are ints that are no frame's length.
func strange() []int {
	return []int{math.MinInt, math.MinInt + 1, -1 << 32, 1 - 1<<32, api.MinFrame - 1<<32, -api.MinFrame, -1, 0, 1, 255, 256, 1 << 31, 1 << 32, 1<<32 + api.MinFrame, 1 << 62, math.MaxInt - 1, math.MaxInt}
}

// samples are frames of all types, with all that they can have.
func samples() []api.Frame {
	return []api.Frame{
		{Type: api.FData, Stream: 1, Payload: []byte("abc")},
		{Type: api.FData, Stream: api.MaxID, Flags: api.FlagEnd},
		{Type: api.FData, Stream: 1, Flags: api.FlagPad, Pad: 255, Payload: []byte("ab")},
		{Type: api.FHeaders, Stream: 3, Flags: api.FlagDone, Payload: []byte{0x82}},
		{Type: api.FHeaders, Stream: 3, Flags: api.FlagPad + api.FlagPrio, Pad: 2, Dep: 1, Only: true, Weight: 16, Payload: []byte("ab")},
		{Type: api.FPriority, Stream: 5, Dep: 0x01020304, Weight: 200},
		{Type: api.FReset, Stream: 7, Code: math.MaxUint32},
		{Type: api.FSettings},
		{Type: api.FSettings, Flags: api.FlagAck},
		{Type: api.FSettings, Sets: []api.Setting{{ID: 0, Value: 0}, {ID: 1<<16 - 1, Value: math.MaxUint32}}},
		{Type: api.FPush, Stream: 9, Flags: api.FlagPad, Pad: 1, Last: 10, Payload: []byte("fragment")},
		ping("12345678"),
		{Type: api.FGoaway, Last: api.MaxID, Code: api.CCalm, Payload: []byte("why")},
		{Type: api.FWindow, Inc: api.MaxWindow},
		{Type: api.FWindow, Stream: 3, Inc: 1},
		{Type: api.FContinue, Stream: 3, Flags: api.FlagDone, Payload: []byte("rest")},
	}
}

// flaw is a frame with a fault.
type flaw struct {
	bytes []byte
	bad   api.Fault
}

// streamFlaws are frames whose faults are their streams'.
func streamFlaws() []flaw {
	return []flaw{
		{made(api.FPriority, 0, 5, ""), streamFault(5, api.CSize)},
		{made(api.FPriority, 0, 5, "abc"), streamFault(5, api.CSize)},
		{made(api.FPriority, 0, api.MaxID, "abcdef"), streamFault(api.MaxID, api.CSize)},
		{made(api.FWindow, 0, 3, "\x00\x00\x00\x00"), streamFault(3, api.CProtocol)},
		{made(api.FWindow, 255, 1, "\x80\x00\x00\x00"), streamFault(1, api.CProtocol)},
	}
}

// connFlaws are frames whose faults are the connection's, all of them within MinFrame.
func connFlaws() []flaw {
	return []flaw{
		{made(api.FData, 0, 0, "abc"), connFault(api.CProtocol)},
		{made(api.FData, api.FlagPad, 1, ""), connFault(api.CSize)},
		{made(api.FData, api.FlagPad, 1, "\x02a"), connFault(api.CProtocol)},
		{made(api.FHeaders, 0, 0, ""), connFault(api.CProtocol)},
		{made(api.FHeaders, api.FlagPrio, 1, "abcd"), connFault(api.CSize)},
		{made(api.FPriority, 0, 0, "abc"), connFault(api.CProtocol)},
		{made(api.FReset, 0, 1, "abc"), connFault(api.CSize)},
		{made(api.FSettings, 0, 1, ""), connFault(api.CProtocol)},
		{made(api.FSettings, 0, 0, "abcde"), connFault(api.CSize)},
		{made(api.FSettings, api.FlagAck, 0, "abcdef"), connFault(api.CSize)},
		{made(api.FPush, 0, 1, "abc"), connFault(api.CSize)},
		{made(api.FPing, 0, 0, "1234567"), connFault(api.CSize)},
		{made(api.FGoaway, 0, 0, "1234567"), connFault(api.CSize)},
		{made(api.FWindow, 0, 0, "\x00\x00\x00\x00"), connFault(api.CProtocol)},
		{made(api.FWindow, 0, 3, "abc"), connFault(api.CSize)},
		{made(api.FContinue, 0, 0, "abc"), connFault(api.CProtocol)},
	}
}

// The chapter's example.
func TestExample(t *testing.T) {
	for _, ahead := range [][]byte{nil, made(99, 0, 1, "ab"), made(99, 255, 0, "")} {
		r := mustNew(t, api.MinFrame)
		mustFeed(t, r, ahead)
		b := written(t, ping("12345678"))
		for i := range b {
			mustFeed(t, r, b[i:i+1])
			if i < len(b)-1 {
				mustWait(t, r)
				mustBe(t, r, i+1, false)
			}
		}
		mustFrame(t, r, ping("12345678"))
		mustBe(t, r, 0, false)
		mustWait(t, r)
	}
}

// P8.1
func TestNew(t *testing.T) {
	for _, most := range append(strange(), api.MinFrame-1, api.MaxFrame+1) {
		if r, e := reader.New(most); r != nil || e != api.ErrArg {
			t.Errorf("New(%d) = %v, %d, want none, %d", most, r, e, api.ErrArg)
		}
	}
	for _, most := range []int{api.MinFrame, api.MinFrame + 1, 1 << 20, api.MaxFrame - 1, api.MaxFrame} {
		r := mustNew(t, most)
		mustBe(t, r, 0, false)
		mustWait(t, r)
	}
}

// P8.1: frames are told up to most; one above it is a fault at its ninth byte.
func TestMost(t *testing.T) {
	for _, most := range []int{api.MinFrame, api.MinFrame + 1, 1 << 20, api.MaxFrame - 1, api.MaxFrame} {
		r := mustNew(t, most)
		f := api.Frame{Type: api.FData, Stream: 1, Payload: bytes.Repeat([]byte("x"), most)}
		b := written(t, f)
		mustFeed(t, r, b[:len(b)-1])
		mustWait(t, r)
		mustBe(t, r, len(b)-1, false)
		mustFeed(t, r, b[len(b)-1:])
		mustFrame(t, r, f)
		mustBe(t, r, 0, false)
		if most == api.MaxFrame {
			continue
		}
		for _, kind := range []int{api.FData, api.FPing, api.FPriority, 99, 255} {
			r := mustNew(t, most)
			n := most + 1
			head := []byte{byte(n >> 16), byte(n >> 8), byte(n), byte(kind), 0, 0, 0, 0, 1}
			mustFeed(t, r, head[:8])
			mustWait(t, r)
			mustBe(t, r, 8, false)
			mustFeed(t, r, head[8:])
			mustBe(t, r, 9, false)
			mustHaveFailed(t, r, 9, connFault(api.CSize))
		}
	}
}

// P8.1: the greatest length that a head can tell.
func TestTooLong(t *testing.T) {
	r := mustNew(t, api.MaxFrame-1)
	mustFeed(t, r, raw(t, "ffffff 00 00 00000001"))
	mustHaveFailed(t, r, 9, connFault(api.CSize))
	r = mustNew(t, api.MaxFrame)
	mustFeed(t, r, raw(t, "ffffff 00 00 00000001"))
	mustWait(t, r)
	mustBe(t, r, 9, false)
}

// P8.1: a fault of length goes ahead of all others that a frame has, whatever stands behind its head.
func TestTooLongAndWhole(t *testing.T) {
	r := mustNew(t, api.MinFrame)
	b := made(api.FData, 0, 0, strings.Repeat("x", api.MinFrame+1))
	mustFeed(t, r, b)
	mustHaveFailed(t, r, len(b), connFault(api.CSize))
}

// P8.1: frames of all types come one by one, as they were written.
func TestFrames(t *testing.T) {
	r := mustNew(t, api.MinFrame)
	rest := 0
	for _, f := range samples() {
		b := written(t, f)
		mustFeed(t, r, b)
		rest += len(b)
		mustBe(t, r, rest, false)
	}
	for _, f := range samples() {
		mustFrame(t, r, f)
		rest -= len(written(t, f))
		mustBe(t, r, rest, false)
	}
	mustWait(t, r)
	mustBe(t, r, 0, false)
}

// P8.1: a chunk without bytes is one, and changes nothing; none is a fault.
func TestEmptyChunks(t *testing.T) {
	r := mustNew(t, api.MinFrame)
	b := written(t, ping("12345678"))
	for i := range b {
		mustFeed(t, r, nil)
		mustBe(t, r, i, false)
		mustFeed(t, r, []byte{})
		mustWait(t, r)
		mustBe(t, r, i, false)
		mustFeed(t, r, b[i:i+1])
	}
	mustFrame(t, r, ping("12345678"))
}

// P8.1: all unknown types are passed over, wherever they stand, by Next alone, and not ahead of their last byte.
func TestUnknown(t *testing.T) {
	a, b := written(t, ping("12345678")), written(t, ping("abcdefgh"))
	for kind := 10; kind < 256; kind++ {
		x := made(kind, kind, kind%3, strings.Repeat("u", kind))
		r := mustNew(t, api.MinFrame)
		mustFeed(t, r, x)
		mustBe(t, r, len(x), false)
		mustWait(t, r)
		mustBe(t, r, 0, false)
		mustFeed(t, r, slices.Concat(a, x, x, b, x[:len(x)-1]))
		mustFrame(t, r, ping("12345678"))
		mustBe(t, r, 2*len(x)+len(b)+len(x)-1, false)
		mustFrame(t, r, ping("abcdefgh"))
		mustBe(t, r, len(x)-1, false)
		mustWait(t, r)
		mustBe(t, r, len(x)-1, false)
		mustFeed(t, r, x[len(x)-1:])
		mustWait(t, r)
		mustBe(t, r, 0, false)
	}
}

// P8.1: an unknown frame may have most bytes, and none.
func TestUnknownEdges(t *testing.T) {
	r := mustNew(t, api.MinFrame)
	mustFeed(t, r, made(10, 0, 0, strings.Repeat("u", api.MinFrame)))
	mustFeed(t, r, made(255, 255, api.MaxID, ""))
	mustFeed(t, r, written(t, ping("12345678")))
	mustFrame(t, r, ping("12345678"))
	mustBe(t, r, 0, false)
}

// P8.1: a frame with a stream's fault is told once, and passed over.
func TestStreamFaults(t *testing.T) {
	r := mustNew(t, api.MinFrame)
	b := written(t, ping("12345678"))
	for _, x := range streamFlaws() {
		mustFeed(t, r, x.bytes[:len(x.bytes)-1])
		mustWait(t, r)
		mustFeed(t, r, x.bytes[len(x.bytes)-1:])
		mustFeed(t, r, b)
		mustFault(t, r, x.bad)
		mustBe(t, r, len(b), false)
		mustFrame(t, r, ping("12345678"))
		mustBe(t, r, 0, false)
		mustWait(t, r)
	}
	for _, x := range streamFlaws() {
		mustFeed(t, r, slices.Concat(made(77, 0, 0, "u"), x.bytes))
	}
	for _, x := range streamFlaws() {
		mustFault(t, r, x.bad)
	}
	mustWait(t, r)
	mustBe(t, r, 0, false)
}

// P8.1: by a fault of the connection the reader fails, for good; frames ahead of it are told, bytes from it on stay.
func TestConnFaults(t *testing.T) {
	b := written(t, ping("12345678"))
	for _, x := range connFlaws() {
		r := mustNew(t, api.MinFrame)
		mustFeed(t, r, b)
		mustFeed(t, r, made(99, 0, 0, "ab"))
		mustFeed(t, r, x.bytes[:len(x.bytes)-1])
		mustFrame(t, r, ping("12345678"))
		mustWait(t, r)
		mustBe(t, r, len(x.bytes)-1, false)
		mustFeed(t, r, x.bytes[len(x.bytes)-1:])
		mustBe(t, r, len(x.bytes), false)
		mustFeed(t, r, b)
		mustBe(t, r, len(x.bytes)+len(b), false)
		mustHaveFailed(t, r, len(x.bytes)+len(b), x.bad)
	}
}

// P8.1: what is passed over in the call that fails, a stream's fault ahead of it, and the first of two faults of the connection.
func TestFaultsInOrder(t *testing.T) {
	r := mustNew(t, api.MinFrame)
	mustFeed(t, r, made(99, 0, 0, "ab"))
	mustFeed(t, r, made(api.FPriority, 0, 5, "abc"))
	mustFeed(t, r, made(99, 0, 0, "ab"))
	mustFeed(t, r, made(api.FData, 0, 0, "abc"))
	mustFeed(t, r, made(api.FPing, 0, 0, "abc"))
	mustFault(t, r, streamFault(5, api.CSize))
	mustBe(t, r, 11+12+12, false)
	mustHaveFailed(t, r, 12+12, connFault(api.CProtocol))
}

// P8.1: a peer that speaks something else: its text read as a head.
func TestText(t *testing.T) {
	r := mustNew(t, api.MaxFrame)
	mustFeed(t, r, []byte("GET / HTTP/1.1\r\n\r\n"))
	mustWait(t, r)
	r = mustNew(t, api.MinFrame)
	mustFeed(t, r, []byte("GET / HTTP/1.1\r\n\r\n"))
	mustHaveFailed(t, r, 18, connFault(api.CSize))
}

// P8.1: a chunk of very many frames is gone through in a time that its length tells.
func TestManyFrames(t *testing.T) {
	const many = 200000
	r := mustNew(t, api.MinFrame)
	f := api.Frame{Type: api.FWindow, Stream: 1, Inc: 7}
	one := slices.Concat(made(50, 0, 0, ""), written(t, f))
	mustFeed(t, r, bytes.Repeat(one, many))
	for i := range many {
		mustFrame(t, r, f)
		mustBe(t, r, (many-1-i)*len(one), false)
	}
	mustWait(t, r)
	mustFeed(t, r, bytes.Repeat(made(50, 0, 0, ""), many))
	mustWait(t, r)
	mustBe(t, r, 0, false)
}

// What has been told of is let go, also by a reader that is never without a byte.
func TestLetGo(t *testing.T) {
	const many = 64
	r := mustNew(t, api.MaxFrame)
	f := api.Frame{Type: api.FData, Stream: 1, Payload: make([]byte, 1<<20)}
	b := written(t, f)
	mustFeed(t, r, b[:1])
	was := heap()
	for range many {
		mustFeed(t, r, b[1:])
		mustFeed(t, r, b[:1])
		mustFrame(t, r, f)
		mustBe(t, r, 1, false)
	}
	if now := heap(); now > was+many/4<<20 {
		t.Errorf("%d bytes are held ahead of %d frames, %d behind them", was, many, now)
	}
	mustBe(t, r, 1, false)
}

// heap tells how many bytes are held by all that is still in use.
func heap() uint64 {
	runtime.GC()
	var m runtime.MemStats
	runtime.ReadMemStats(&m)
	return m.HeapAlloc
}

// P8.2
func TestNoReader(t *testing.T) {
	for _, r := range []*reader.Reader{nil, {}, new(reader.Reader)} {
		for _, b := range [][]byte{nil, {}, written(t, ping("12345678")), made(api.FData, 0, 0, "")} {
			if e := r.Feed(b); e != api.ErrZero {
				t.Errorf("Feed(% x) = %d, want %d", b, e, api.ErrZero)
			}
			mustWait(t, r)
			mustBe(t, r, 0, false)
		}
	}
}

// P4: a chunk is neither changed nor kept, also where it has room behind it; what is told is new memory.
func TestMemory(t *testing.T) {
	r := mustNew(t, api.MinFrame)
	room := slices.Concat(written(t, ping("12345678")), written(t, ping("abcdefgh")))
	b := room[:17]
	was := slices.Clone(room)
	mustFeed(t, r, b)
	mustFeed(t, r, room[17:20])
	if !bytes.Equal(room, was) {
		t.Fatalf("Feed has changed what it was given: % x", room)
	}
	for i := range room {
		room[i] = 0xee
	}
	f, _, _ := r.Next()
	if !same(f, ping("12345678")) {
		t.Fatalf("Next() = %v", brief(f))
	}
	copy(f.Payload[:cap(f.Payload)], "zzzzzzzzzzzzzzzzzzzzzzzzzzzzzzzz")
	mustFeed(t, r, was[20:])
	g, _, _ := r.Next()
	if !same(g, ping("abcdefgh")) || !same(f, ping("zzzzzzzz")) {
		t.Fatalf("Next() = %v beside %v", brief(g), brief(f))
	}
	mustFeed(t, r, written(t, ping("ABCDEFGH")))
	mustFrame(t, r, ping("ABCDEFGH"))
	if !same(g, ping("abcdefgh")) {
		t.Fatalf("a frame has changed: %v", brief(g))
	}
}

// P5: readers have nothing in common.
func TestApart(t *testing.T) {
	a, b := mustNew(t, api.MinFrame), mustNew(t, api.MinFrame)
	mustFeed(t, a, made(api.FData, 0, 0, ""))
	mustFeed(t, b, written(t, ping("12345678")))
	mustHaveFailed(t, a, 9, connFault(api.CProtocol))
	mustBe(t, b, 17, false)
	mustFrame(t, b, ping("12345678"))
}

// told is one answer of Next that tells something.
type told struct {
	f   api.Frame
	bad api.Fault
}

// plain tells what stands in b, all of it at once, and how many bytes are left behind that.
func plain(b []byte, most int) ([]told, int) {
	var list []told
	for {
		f, n, bad, e := frame.Parse(b, most)
		if e != api.OK {
			return list, len(b)
		}
		if bad.Is || f.Type <= api.FContinue {
			list = append(list, told{f, bad})
		}
		if bad.Is && bad.Stream == 0 {
			return list, len(b)
		}
		b = b[n:]
	}
}

// drain takes all that a reader tells at once.
func drain(r *reader.Reader) []told {
	var list []told
	for {
		f, there, bad := r.Next()
		if !there && !bad.Is {
			return list
		}
		list = append(list, told{f, bad})
		if r.Failed() {
			return list
		}
	}
}

// cut feeds b in chunks of lengths that size tells, asks for frames behind each with ask, and answers all that was told. What comes behind a failure is not fed.
func cut(t *testing.T, r *reader.Reader, b []byte, size func() int, ask func() bool) []told {
	t.Helper()
	var list []told
	for len(b) > 0 && !r.Failed() {
		n := min(size(), len(b))
		mustFeed(t, r, b[:n])
		b = b[n:]
		if ask() {
			list = append(list, drain(r)...)
		}
	}
	if r.Failed() {
		return list
	}
	return append(list, drain(r)...)
}

func mustTellAll(t *testing.T, got, want []told, b []byte) {
	t.Helper()
	if len(got) != len(want) {
		t.Fatalf("of % .80x were told %d, want %d", b, len(got), len(want))
	}
	for i := range want {
		if got[i].bad != want[i].bad || !same(got[i].f, want[i].f) {
			t.Fatalf("of % .80x was told at %d: %v, %v, want %v, %v", b, i, brief(got[i].f), got[i].bad, brief(want[i].f), want[i].bad)
		}
	}
}

// mixed are bytes of frames, known and unknown, with and without faults, perhaps broken off or with a byte that is changed.
func mixed(t *testing.T, src *rand.Rand) []byte {
	t.Helper()
	var b []byte
	good, weak, fatal := samples(), streamFlaws(), connFlaws()
	for range src.Intn(12) {
		switch k := src.Intn(40); {
		case k < 24:
			b = append(b, written(t, good[src.Intn(len(good))])...)
		case k < 31:
			b = append(b, made(10+src.Intn(246), src.Intn(256), src.Intn(5), strings.Repeat("u", src.Intn(30)))...)
		case k < 38:
			b = append(b, weak[src.Intn(len(weak))].bytes...)
		case k < 39:
			b = append(b, fatal[src.Intn(len(fatal))].bytes...)
		default:
			b = append(b, written(t, api.Frame{Type: api.FData, Stream: 1, Payload: make([]byte, api.MinFrame+src.Intn(2))})...)
		}
	}
	if len(b) > 0 && src.Intn(4) == 0 {
		b = b[:src.Intn(len(b))]
	}
	if len(b) > 0 && src.Intn(4) == 0 {
		b[src.Intn(len(b))] = byte(src.Intn(256))
	}
	return b
}

// P8.3: however chunks are cut, and whenever frames are asked for, the same is told.
func TestCuts(t *testing.T) {
	src := rand.New(rand.NewSource(8))
	always := func() bool { return true }
	never := func() bool { return false }
	for range 2000 {
		b := mixed(t, src)
		want, left := plain(b, api.MinFrame)
		failed := len(want) > 0 && want[len(want)-1].bad.Is && want[len(want)-1].bad.Stream == 0
		wide := 1 + src.Intn(60)
		for _, size := range []func() int{
			func() int { return 1 },
			func() int { return 9 },
			func() int { return src.Intn(wide + 1) },
			func() int { return len(b) },
		} {
			for _, ask := range []func() bool{always, never, func() bool { return src.Intn(3) == 0 }} {
				r := mustNew(t, api.MinFrame)
				mustTellAll(t, cut(t, r, b, size, ask), want, b)
				if !failed {
					mustBe(t, r, left, false)
				} else if !r.Failed() {
					t.Fatalf("of % .80x the reader has not failed", b)
				}
			}
		}
		r := mustNew(t, api.MinFrame)
		mustTellAll(t, cut(t, r, b, func() int { return len(b) }, never), want, b)
		mustBe(t, r, left, failed)
	}
}

// P8.3: each place at which all frames and faults can be cut in two.
func TestCutInTwo(t *testing.T) {
	var b []byte
	for i, f := range samples() {
		b = append(b, written(t, f)...)
		b = append(b, made(10+i, 0, i, "unknown"[:i%7])...)
		b = append(b, streamFlaws()[i%5].bytes...)
	}
	b = append(b, made(api.FContinue, 0, 0, "abc")...)
	want, left := plain(b, api.MaxFrame)
	if len(want) != 2*len(samples())+1 || left != 12 {
		t.Fatalf("%d frames and faults, %d bytes left", len(want), left)
	}
	for at := range len(b) {
		r := mustNew(t, api.MaxFrame)
		mustFeed(t, r, b[:at])
		got := drain(r)
		mustFeed(t, r, b[at:])
		mustTellAll(t, append(got, drain(r)...), want, b)
		mustHaveFailed(t, r, left, connFault(api.CProtocol))
	}
}
