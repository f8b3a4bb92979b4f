package block_test

import (
	"bytes"
	"math"
	"math/rand"
	"reflect"
	"slices"
	"testing"

	"aqueduct/api"
	"aqueduct/block"
	"aqueduct/frame"
)

// headers is a HEADERS frame with a fragment.
func headers(stream, flags int, text string) api.Frame {
	return api.Frame{Type: api.FHeaders, Stream: stream, Flags: flags, Payload: []byte(text)}
}

// further is a CONTINUATION frame with a fragment.
func further(stream, flags int, text string) api.Frame {
	return api.Frame{Type: api.FContinue, Stream: stream, Flags: flags, Payload: []byte(text)}
}

// same tells whether two frames are the same; nil and empty lists are.
func same(a, b api.Frame) bool {
	if !bytes.Equal(a.Payload, b.Payload) || !slices.Equal(a.Sets, b.Sets) {
		return false
	}
	a.Payload, b.Payload, a.Sets, b.Sets = nil, nil, nil, nil
	return reflect.DeepEqual(a, b)
}

// brief is f as it is told, if it is wrong: with the beginning of its bytes.
func brief(f api.Frame) api.Frame {
	f.Payload = f.Payload[:min(len(f.Payload), 40)]
	return f
}

// filled are n bytes of which neighbours differ.
func filled(n int) []byte {
	b := make([]byte, n)
	for i := range b {
		b[i] = byte(i*7 + i>>8)
	}
	return b
}

func mustNew(t *testing.T, most int) *block.Joiner {
	t.Helper()
	j, e := block.New(most)
	if j == nil || e != api.OK {
		t.Fatalf("New(%d) = %v, %d", most, j, e)
	}
	mustHold(t, j, 0, 0)
	return j
}

func mustSplit(t *testing.T, stream int, b []byte, end bool, most int) []api.Frame {
	t.Helper()
	l, e := block.Split(stream, b, end, most)
	if e != api.OK {
		t.Fatalf("Split(%d, % .40x, %v, %d): %d", stream, b, end, most, e)
	}
	return l
}

// mustAnswer asks for a whole answer of In.
func mustAnswer(t *testing.T, j *block.Joiner, f, want api.Frame, there bool, bad api.Fault) {
	t.Helper()
	got, gthere, gbad := j.In(f)
	if !same(got, want) || gthere != there || gbad != bad {
		t.Fatalf("In(%v) = %v, %v, %v, want %v, %v, %v", brief(f), brief(got), gthere, gbad, brief(want), there, bad)
	}
}

// mustTell asks for a frame that is told.
func mustTell(t *testing.T, j *block.Joiner, f, want api.Frame) {
	t.Helper()
	mustAnswer(t, j, f, want, true, api.Fault{})
	mustHold(t, j, 0, 0)
}

// mustWait asks for nothing told, and for what is open behind it.
func mustWait(t *testing.T, j *block.Joiner, f api.Frame, stream, held int) {
	t.Helper()
	mustAnswer(t, j, f, api.Frame{}, false, api.Fault{})
	mustHold(t, j, stream, held)
}

// mustFail asks for a fault of the connection, and for nothing open behind it.
func mustFail(t *testing.T, j *block.Joiner, f api.Frame, code int) {
	t.Helper()
	mustAnswer(t, j, f, api.Frame{}, false, api.Fault{Is: true, Code: code})
	mustHold(t, j, 0, 0)
}

func mustHold(t *testing.T, j *block.Joiner, stream, held int) {
	t.Helper()
	for range 2 {
		if j.Stream() != stream || j.Held() != held {
			t.Fatalf("Stream(), Held() = %d, %d, want %d, %d", j.Stream(), j.Held(), stream, held)
		}
	}
}

// mustBeClosed asks for a joiner that takes a new block from its beginning: no CONTINUATION goes on with an older one.
func mustBeClosed(t *testing.T, j *block.Joiner, stream int) {
	t.Helper()
	mustHold(t, j, 0, 0)
	mustFail(t, j, further(stream, api.FlagDone, ""), api.CProtocol)
	mustTell(t, j, headers(stream, api.FlagDone, ""), headers(stream, api.FlagDone, ""))
}

// others are frames that are neither HEADERS nor CONTINUATION, with all that they can have, and ones that no reader tells.
func others() []api.Frame {
	full := api.Frame{Flags: 255, Stream: 1, Payload: []byte("abc"), Pad: 7, Code: math.MaxUint32, Last: 9, Inc: 5, Dep: 3, Only: true, Weight: 256, Sets: []api.Setting{{ID: 1, Value: 2}, {ID: 3, Value: 4}}}
	l := []api.Frame{
		{},
		{Type: api.FData, Stream: 1, Flags: api.FlagEnd, Payload: []byte("data")},
		{Type: api.FPriority, Stream: 1, Dep: 3, Weight: 16},
		{Type: api.FReset, Stream: 1, Code: api.CCancel},
		{Type: api.FSettings, Sets: []api.Setting{{ID: api.SetTable, Value: 9}}},
		{Type: api.FSettings, Flags: api.FlagAck},
		{Type: api.FPush, Stream: 1, Last: 2, Payload: []byte("promise")},
		{Type: api.FPush, Stream: 1, Last: 2, Flags: api.FlagDone, Payload: []byte("promise")},
		{Type: api.FPing, Payload: []byte("12345678")},
		{Type: api.FGoaway, Last: 1, Code: api.CCalm, Payload: []byte("why")},
		{Type: api.FWindow, Stream: 1, Inc: 5},
		{Type: api.FData, Stream: 1, Payload: filled(api.MaxBlock + 1)},
	}
	for _, kind := range []int{math.MinInt, -1, 0, 2, 3, 4, 5, 6, 7, 8, 10, 99, 257, 265, math.MaxInt} {
		full.Type = kind
		l = append(l, full)
	}
	return l
}

// P12.1, P12.2: the chapter's examples.
func TestExamples(t *testing.T) {
	l := mustSplit(t, 1, []byte("abc"), true, 2)
	if len(l) != 2 || !same(l[0], headers(1, api.FlagEnd, "ab")) || !same(l[1], further(1, api.FlagDone, "c")) {
		t.Fatalf("Split = %v", l)
	}
	j := mustNew(t, 3)
	mustWait(t, j, l[0], 1, 2)
	mustFail(t, j, api.Frame{Type: api.FPing, Payload: []byte("12345678")}, api.CProtocol)
	mustWait(t, j, l[0], 1, 2)
	mustTell(t, j, l[1], headers(1, api.FlagEnd+api.FlagDone, "abc"))
}

// P12.1: streams and sizes that can't be.
func TestSplitWrong(t *testing.T) {
	text := []byte("abc")
	streams := []int{math.MinInt, -1 << 32, -api.MaxID, -1, 0, api.MaxID + 1, 1 << 32, 1<<32 + 1, math.MaxInt}
	sizes := []int{math.MinInt, -1 << 32, 1 - 1<<32, -2, -1, 0}
	refused := func(stream, most int) {
		t.Helper()
		for _, b := range [][]byte{nil, {}, text} {
			for _, end := range []bool{false, true} {
				if l, e := block.Split(stream, b, end, most); len(l) != 0 || e != api.ErrArg {
					t.Errorf("Split(%d, %q, %v, %d) = %v, %d, want none, ErrArg", stream, b, end, most, l, e)
				}
			}
		}
	}
	for _, stream := range streams {
		refused(stream, 1)
		refused(stream, math.MaxInt)
		refused(stream, 0)
	}
	for _, most := range sizes {
		refused(1, most)
		refused(api.MaxID, most)
	}
}

// P12.1: no block is without a frame, and a lone frame ends it.
func TestSplitOne(t *testing.T) {
	for _, stream := range []int{1, 2, 3, api.MaxID - 1, api.MaxID} {
		for _, text := range []string{"", "a", "abc"} {
			for _, most := range []int{max(1, len(text)), len(text) + 1, api.MinFrame, api.MaxFrame, math.MaxInt - 1, math.MaxInt} {
				for _, end := range []bool{false, true} {
					flags := api.FlagDone
					if end {
						flags += api.FlagEnd
					}
					l := mustSplit(t, stream, []byte(text), end, most)
					if len(l) != 1 || !same(l[0], headers(stream, flags, text)) {
						t.Fatalf("Split(%d, %q, %v, %d) = %v", stream, text, end, most, l)
					}
				}
			}
		}
	}
	if l := mustSplit(t, 1, nil, true, 1); len(l) != 1 || !same(l[0], headers(1, api.FlagDone+api.FlagEnd, "")) {
		t.Fatalf("Split of nil = %v", l)
	}
}

// mustBeCut asks for every frame of a block that was split, by its place.
func mustBeCut(t *testing.T, l []api.Frame, stream int, b []byte, end bool, most int) {
	t.Helper()
	if want := max(1, (len(b)+most-1)/most); len(l) != want {
		t.Fatalf("%d bytes by %d: %d frames, want %d", len(b), most, len(l), want)
	}
	for i, f := range l {
		want := api.Frame{Type: api.FContinue, Stream: stream, Payload: b[i*most : min(len(b), (i+1)*most)]}
		if i == 0 {
			want.Type = api.FHeaders
			if end {
				want.Flags += api.FlagEnd
			}
		}
		if i == len(l)-1 {
			want.Flags += api.FlagDone
		}
		if !same(f, want) {
			t.Fatalf("%d bytes by %d: frame %d is %v, want %v", len(b), most, i, brief(f), brief(want))
		}
	}
}

// P12.1: frames are full, but for the last one.
func TestSplitMany(t *testing.T) {
	for n := range 40 {
		for most := 1; most < 45; most++ {
			b := filled(n)
			mustBeCut(t, mustSplit(t, 5, b, n%2 == 0, most), 5, b, n%2 == 0, most)
		}
	}
	for _, n := range []int{api.MinFrame - 1, api.MinFrame, api.MinFrame + 1, 4*api.MinFrame - 1, api.MaxBlock, api.MaxBlock + 1, 3*api.MaxBlock + 5} {
		for _, most := range []int{1000, api.MinFrame - 1, api.MinFrame, api.MinFrame + 1} {
			b := filled(n)
			mustBeCut(t, mustSplit(t, api.MaxID, b, true, most), api.MaxID, b, true, most)
		}
	}
}

// P4: what Split answers is memory of its own, each fragment too.
func TestSplitApart(t *testing.T) {
	b := []byte("abcdefgh")
	l := mustSplit(t, 1, b[:7], false, 3)
	if string(b) != "abcdefgh" {
		t.Fatalf("Split has changed its argument: %q", b)
	}
	for i := range b {
		b[i] = '-'
	}
	for i := range l {
		if got, want := string(l[i].Payload), []string{"abc", "def", "g"}[i]; got != want {
			t.Fatalf("fragment %d is %q, want %q", i, got, want)
		}
		for k := range l[i].Payload {
			l[i].Payload[k] = '+'
		}
		l[i].Payload = append(l[i].Payload, "++++++++"...)
	}
	if string(b) != "--------" {
		t.Fatalf("fragments share memory with the block: %q", b)
	}
}

// P12.2: New's bounds.
func TestNew(t *testing.T) {
	for _, most := range []int{math.MinInt, -1 << 32, -api.MaxBlock, -1, api.MaxBlock + 1, 1 << 32, 1<<32 + 1, math.MaxInt} {
		if j, e := block.New(most); j != nil || e != api.ErrArg {
			t.Errorf("New(%d) = %v, %d, want nil, ErrArg", most, j, e)
		}
	}
	for _, most := range []int{0, 1, 2, api.MinFrame, api.MaxBlock - 1, api.MaxBlock} {
		mustBeClosed(t, mustNew(t, most), 1)
	}
}

// P12.2: while none is open, frames of all other types are told as they are, however long, and open none.
func TestOthers(t *testing.T) {
	for _, most := range []int{0, 2, api.MaxBlock} {
		j := mustNew(t, most)
		for _, f := range others() {
			mustTell(t, j, f, f)
			mustBeClosed(t, j, 1)
		}
	}
}

// P12.2: while one is open, they are faults, and it is gone.
func TestOthersBetween(t *testing.T) {
	j := mustNew(t, api.MaxBlock)
	for _, f := range others() {
		mustWait(t, j, headers(1, api.FlagEnd, "ab"), 1, 2)
		mustWait(t, j, further(1, 0, "c"), 1, 3)
		mustFail(t, j, f, api.CProtocol)
		mustBeClosed(t, j, 1)
		mustTell(t, j, f, f)
	}
}

// P12.2: a CONTINUATION of nothing is a fault, whatever its stream, flags and bytes.
func TestContinueNone(t *testing.T) {
	for _, most := range []int{0, 3, api.MaxBlock} {
		j := mustNew(t, most)
		for _, stream := range []int{math.MinInt, -1, 0, 1, 3, api.MaxID, math.MaxInt} {
			for _, flags := range []int{-1, 0, api.FlagEnd, api.FlagDone, 255} {
				mustFail(t, j, further(stream, flags, ""), api.CProtocol)
				mustFail(t, j, further(stream, flags, "abcdef"), api.CProtocol)
			}
		}
		mustTell(t, j, headers(1, api.FlagDone, ""), headers(1, api.FlagDone, ""))
		mustFail(t, j, further(1, api.FlagDone, ""), api.CProtocol)
	}
}

// P12.2: what goes on with a block is a CONTINUATION of its stream alone.
func TestContinueOther(t *testing.T) {
	j := mustNew(t, 4)
	for _, flags := range []int{0, api.FlagEnd, api.FlagDone, 255} {
		for _, stream := range []int{math.MinInt, -3, 0, 1, 2, 4, 3 + 1<<32, api.MaxID} {
			for _, text := range []string{"", "c", "more than there may be"} {
				mustWait(t, j, headers(3, flags&api.FlagEnd, "ab"), 3, 2)
				mustFail(t, j, further(stream, flags, text), api.CProtocol)
				mustBeClosed(t, j, 3)
				mustWait(t, j, headers(3, 0, "ab"), 3, 2)
				mustFail(t, j, headers(stream, flags, text), api.CProtocol)
				mustBeClosed(t, j, 3)
			}
		}
		mustWait(t, j, headers(3, 0, "ab"), 3, 2)
		mustFail(t, j, headers(3, flags, "c"), api.CProtocol)
		mustBeClosed(t, j, 3)
	}
}

// P12.2: of the flags that have come FlagEnd of the first frame alone is told, and of its fields those of a block.
func TestFlags(t *testing.T) {
	j := mustNew(t, 10)
	for flags := range 256 {
		want := headers(7, api.FlagDone+flags&api.FlagEnd, "abcd")
		first := api.Frame{Type: api.FHeaders, Stream: 7, Flags: flags, Payload: []byte("abcd"), Pad: 3, Code: 5, Last: 9, Inc: 2, Dep: 1, Only: true, Weight: 16, Sets: []api.Setting{{ID: 1}}}
		if flags&api.FlagDone != 0 {
			mustTell(t, j, first, want)
			continue
		}
		for last := range 256 {
			next := further(7, last, "")
			next.Pad, next.Weight, next.Sets = 4, 17, []api.Setting{{ID: 2}}
			mustWait(t, j, first, 7, 4)
			if last&api.FlagDone != 0 {
				mustTell(t, j, next, want)
				continue
			}
			mustWait(t, j, next, 7, 4)
			mustTell(t, j, further(7, api.FlagDone, ""), want)
		}
	}
}

// P12.2: a block is open, whatever number its stream has.
func TestAnyStream(t *testing.T) {
	j := mustNew(t, 2)
	for _, stream := range []int{math.MinInt, -1, 0, 1, 2, api.MaxID, api.MaxID + 1, math.MaxInt} {
		for _, end := range []int{0, api.FlagEnd} {
			mustWait(t, j, headers(stream, end, ""), stream, 0)
			mustWait(t, j, further(stream, 0, ""), stream, 0)
			mustTell(t, j, further(stream, api.FlagDone, "a"), headers(stream, api.FlagDone+end, "a"))
			mustWait(t, j, headers(stream, end, ""), stream, 0)
			mustFail(t, j, api.Frame{Type: api.FPing}, api.CProtocol)
		}
	}
}

// P12.2: a block has most bytes at most, all its fragments together.
func TestMost(t *testing.T) {
	for _, most := range []int{0, 1, 2, 10, api.MinFrame, api.MaxBlock - 1, api.MaxBlock} {
		full, over := string(filled(most)), string(filled(most+1))
		half := most / 2
		j := mustNew(t, most)
		mustTell(t, j, headers(1, api.FlagDone, full), headers(1, api.FlagDone, full))
		mustWait(t, j, headers(1, 0, full), 1, most)
		mustTell(t, j, further(1, api.FlagDone, ""), headers(1, api.FlagDone, full))
		mustWait(t, j, headers(1, 0, full[:half]), 1, half)
		mustTell(t, j, further(1, api.FlagDone, full[half:]), headers(1, api.FlagDone, full))
		for _, flags := range []int{0, api.FlagDone, api.FlagEnd, api.FlagEnd + api.FlagDone} {
			mustFail(t, j, headers(1, flags, over), api.CCalm)
			mustBeClosed(t, j, 1)
			mustWait(t, j, headers(1, 0, full), 1, most)
			mustFail(t, j, further(1, flags, "x"), api.CCalm)
			mustBeClosed(t, j, 1)
			mustWait(t, j, headers(1, 0, full[:half]), 1, half)
			mustFail(t, j, further(1, flags, over[half:]), api.CCalm)
			mustBeClosed(t, j, 1)
		}
	}
}

// P12.2: it counts the bytes of one block, not of those ahead of it.
func TestMostAgain(t *testing.T) {
	j := mustNew(t, 3)
	for range 5 {
		mustWait(t, j, headers(1, 0, "ab"), 1, 2)
		mustTell(t, j, further(1, api.FlagDone, "c"), headers(1, api.FlagDone, "abc"))
		mustTell(t, j, api.Frame{Type: api.FData, Stream: 1, Payload: []byte("abcd")}, api.Frame{Type: api.FData, Stream: 1, Payload: []byte("abcd")})
		mustWait(t, j, headers(3, 0, "de"), 3, 2)
		mustFail(t, j, further(3, 0, "fg"), api.CCalm)
	}
}

// P12.3: of a nil joiner, and of one that no call made, whatever it is asked.
func TestNotMade(t *testing.T) {
	var zero block.Joiner
	for _, j := range []*block.Joiner{nil, &zero, new(block.Joiner)} {
		for _, f := range append(others(), headers(1, 0, "a"), headers(1, api.FlagDone, ""), further(1, 0, "a"), further(0, api.FlagDone, "")) {
			mustFail(t, j, f, api.CInternal)
		}
	}
}

// P4: a joiner keeps nothing of what is handed in, and shares nothing with what it tells.
func TestInApart(t *testing.T) {
	j := mustNew(t, 20)
	first, next := headers(1, 0, "abc"), further(1, api.FlagDone, "def")
	mustWait(t, j, first, 1, 3)
	copy(first.Payload, "---")
	whole, _, _ := j.In(next)
	copy(next.Payload, "---")
	if string(whole.Payload) != "abcdef" {
		t.Fatalf("the block is %q", whole.Payload)
	}
	mustWait(t, j, headers(3, 0, "gh"), 3, 2)
	copy(whole.Payload, "++++++")
	_ = append(whole.Payload, "++++++"...)
	mustTell(t, j, further(3, api.FlagDone, "i"), headers(3, api.FlagDone, "ghi"))
	lone := headers(1, api.FlagDone, "abc")
	whole, _, _ = j.In(lone)
	copy(lone.Payload, "---")
	if string(whole.Payload) != "abc" {
		t.Fatalf("the block is %q", whole.Payload)
	}
	f := api.Frame{Type: api.FSettings, Payload: []byte("abc"), Sets: []api.Setting{{ID: 1, Value: 2}}}
	told, _, _ := j.In(f)
	f.Payload[0], f.Sets[0].ID = '-', 9
	if string(told.Payload) != "abc" || told.Sets[0].ID != 1 {
		t.Fatalf("a frame shares memory with the one that is told: %v", told)
	}
	told.Payload[1], told.Sets[0].Value = '+', 7
	if string(f.Payload) != "-bc" || f.Sets[0].Value != 2 {
		t.Fatalf("a frame that is told shares memory with what was handed in: %v", f)
	}
}

// P4: what is handed in is not changed, also behind its end.
func TestInUnchanged(t *testing.T) {
	j := mustNew(t, 20)
	b := []byte("abcdefgh")
	mustWait(t, j, api.Frame{Type: api.FHeaders, Stream: 1, Payload: b[:2]}, 1, 2)
	mustWait(t, j, further(1, 0, "---"), 1, 5)
	mustTell(t, j, api.Frame{Type: api.FContinue, Stream: 1, Flags: api.FlagDone, Payload: b[4:5]}, headers(1, api.FlagDone, "ab---e"))
	if string(b) != "abcdefgh" {
		t.Fatalf("what was handed in is now %q", b)
	}
}

// P5: what is done to one joiner leaves all others as they are.
func TestApart(t *testing.T) {
	a, b := mustNew(t, 5), mustNew(t, 5)
	mustWait(t, a, headers(1, 0, "ab"), 1, 2)
	mustHold(t, b, 0, 0)
	mustWait(t, b, headers(3, api.FlagEnd, "xyz"), 3, 3)
	mustHold(t, a, 1, 2)
	mustFail(t, b, api.Frame{}, api.CProtocol)
	mustTell(t, a, further(1, api.FlagDone, "c"), headers(1, api.FlagDone, "abc"))
}

// P12.4: what is split is put together again, also by way of its bytes; one byte above most is too much.
func TestJoined(t *testing.T) {
	r := rand.New(rand.NewSource(12))
	whole, short := mustNew(t, api.MaxBlock), (*block.Joiner)(nil)
	for i := range 400 {
		n := r.Intn(60)
		if i%40 == 0 {
			n = api.MaxBlock - r.Intn(3)
		}
		b, end, stream := filled(n), r.Intn(2) == 0, 1+r.Intn(api.MaxID)
		want := headers(stream, api.FlagDone, string(b))
		if end {
			want.Flags += api.FlagEnd
		}
		l := mustSplit(t, stream, b, end, 1+r.Intn(n+2))
		exact := mustNew(t, n)
		held := 0
		for k, f := range l {
			raw, e := frame.Write(f)
			read, size, bad, e2 := frame.Parse(raw, api.MaxFrame)
			if e != api.OK || e2 != api.OK || bad.Is || size != len(raw) || !same(read, f) {
				t.Fatalf("frame %d of %d: %d, %d, %v, %v, want %v", k, len(l), e, e2, bad, brief(read), brief(f))
			}
			held += len(f.Payload)
			if k < len(l)-1 {
				mustWait(t, whole, read, stream, held)
				mustWait(t, exact, f, stream, held)
				continue
			}
			mustTell(t, whole, read, want)
			mustTell(t, exact, f, want)
		}
		if n == 0 {
			continue
		}
		short = mustNew(t, n-1)
		for _, f := range l[:len(l)-1] {
			mustAnswer(t, short, f, api.Frame{}, false, api.Fault{})
		}
		mustFail(t, short, l[len(l)-1], api.CCalm)
	}
}

// model is the chapter's words, as a list of all frames of the open block.
type model struct {
	most   int
	frames []api.Frame
}

func (m *model) in(f api.Frame) (api.Frame, bool, api.Fault) {
	open := m.frames
	m.frames = nil
	if len(open) > 0 && (f.Type != api.FContinue || f.Stream != open[0].Stream) || len(open) == 0 && f.Type == api.FContinue {
		return api.Frame{}, false, api.Fault{Is: true, Code: api.CProtocol}
	}
	if len(open) == 0 && f.Type != api.FHeaders {
		return f, true, api.Fault{}
	}
	open = append(open, f)
	whole := api.Frame{Type: api.FHeaders, Flags: api.FlagDone + open[0].Flags&api.FlagEnd, Stream: f.Stream}
	for _, p := range open {
		whole.Payload = append(whole.Payload, p.Payload...)
	}
	if len(whole.Payload) > m.most {
		return api.Frame{}, false, api.Fault{Is: true, Code: api.CCalm}
	}
	if f.Flags&api.FlagDone != 0 {
		return whole, true, api.Fault{}
	}
	m.frames = open
	return api.Frame{}, false, api.Fault{}
}

// P12.2: random frames beside a plain model.
func TestRandom(t *testing.T) {
	r := rand.New(rand.NewSource(13))
	for range 300 {
		most := r.Intn(25)
		j, m := mustNew(t, most), &model{most: most}
		for range 200 {
			f := api.Frame{Type: api.FContinue, Stream: 1, Flags: r.Intn(256), Payload: filled(r.Intn(8)), Weight: r.Intn(3)}
			if r.Intn(3) > 0 {
				f.Flags &^= api.FlagDone
			}
			if len(m.frames) == 0 && r.Intn(8) > 0 || r.Intn(12) == 0 {
				f.Type = api.FHeaders
			}
			if r.Intn(12) == 0 {
				f.Type = r.Intn(12)
			}
			if r.Intn(8) == 0 {
				f.Stream = r.Intn(3)
			}
			want, there, bad := m.in(f)
			mustAnswer(t, j, f, want, there, bad)
			stream, held := 0, 0
			for _, p := range m.frames {
				stream, held = p.Stream, held+len(p.Payload)
			}
			mustHold(t, j, stream, held)
		}
	}
}
