package script_test

import (
	"encoding/hex"
	"math/rand"
	"regexp"
	"slices"
	"strconv"
	"strings"
	"testing"

	"aqueduct/api"
	"aqueduct/script"
)

// Forms of a line's words, as the chapter tells them.
var (
	nameForm   = regexp.MustCompile(`^(open|bytes|close|budget|tick|probe|back|stop)$`)
	numberForm = regexp.MustCompile(`^(0|[1-9][0-9]{0,8})$`)
	bytesForm  = regexp.MustCompile(`^=([0-9a-f][0-9a-f])*$`)
	lineForm   = regexp.MustCompile(`^(open|bytes|close|budget|tick|probe|back|stop)( (0|[1-9][0-9]{0,8})){0,3}( =([0-9a-f][0-9a-f])*)?$`)
)

// plainLine is Line, word by word as the chapter has it.
func plainLine(s string) (api.In, int, api.Errno) {
	if len(s) > api.MaxScript {
		return api.In{}, 0, api.ErrLong
	}
	var e api.In
	at, numbers, bytes := 0, 0, 0
	for n, w := range strings.Split(s, " ") {
		switch {
		case n == 0 && nameForm.MatchString(w):
			e.What = slices.Index(names, w)
		case n > 0 && numbers < 3 && bytes == 0 && numberForm.MatchString(w):
			*[]*int{&e.A, &e.B, &e.Draw}[numbers], _ = strconv.Atoi(w)
			numbers++
		case n > 0 && bytes == 0 && bytesForm.MatchString(w):
			e.Bytes, _ = hex.DecodeString(w[1:])
			bytes++
		default:
			return api.In{}, at, api.ErrForm
		}
		at += len(w) + 1
	}
	return e, 0, api.OK
}

// plainScript is Parse, line by line.
func plainScript(s string) ([]api.In, int, api.Errno) {
	if len(s) > api.MaxScript {
		return nil, 0, api.ErrLong
	}
	var out []api.In
	for n, line := range strings.Split(s, "\n") {
		if line == "" || line[0] == '#' {
			continue
		}
		e, _, no := plainLine(line)
		if no != api.OK {
			return nil, n + 1, no
		}
		if out = append(out, e); len(out) > api.MaxEvents {
			return nil, n + 1, api.ErrLong
		}
	}
	return out, 0, api.OK
}

// agrees looks at a line by Line, by the plain model, and by the form of whole lines.
func agrees(t *testing.T, s string) {
	t.Helper()
	want, at, no := plainLine(s)
	if (no == api.OK) != lineForm.MatchString(s) {
		t.Fatalf("%q: the models do not agree", s)
	}
	if no != api.OK {
		mustRefuse(t, s, at, no)
		return
	}
	mustRead(t, s, want)
	line, no := script.Print(want)
	if no != api.OK || len(line) > len(s) || !lineForm.MatchString(line) {
		t.Fatalf("Print(%v) = %q, %d of %q", want, line, no, s)
	}
	mustRead(t, line, want) // P23.3
}

// tokens are words of lines, right ones and wrong ones.
func tokens() []string {
	return []string{"", "open", "bytes", "stop", "no", "0", "7", "12", "01", "999999999", "1000000000", "=", "=00", "=0", "=c3A0", "=e9ff", "#", "\xff", "é"}
}

// P23.1: all lines of up to four words.
func TestAllLines(t *testing.T) {
	all := []string{}
	for _, w := range tokens() {
		all = append(all, w)
	}
	for from := 0; len(all) < 100000; {
		to := len(all)
		for _, s := range all[from:to] {
			for _, w := range tokens() {
				all = append(all, s+" "+w)
			}
		}
		from = to
	}
	for _, s := range all {
		agrees(t, s)
	}
	if want := 19 + 19*19 + 19*19*19 + 19*19*19*19; len(all) < want {
		t.Errorf("%d lines, want %d", len(all), want)
	}
}

// P23.1: lines of five and six words, as the first four can stand.
func TestFullLines(t *testing.T) {
	for _, head := range []string{"budget 1 2 3", "budget 1 2 3 =00", "budget 1 2 =00", "tick 0 0 0", "tick =", "tick 0 ="} {
		for _, x := range tokens() {
			agrees(t, head+" "+x)
			for _, y := range tokens() {
				agrees(t, head+" "+x+" "+y)
			}
		}
	}
}

// P23.1: all short texts of a few letters behind what can stand.
func TestShortTexts(t *testing.T) {
	letters := []string{"0", "1", "9", "a", "f", "g", "A", "=", " ", "#", "\n", "/", ":", "\xe9"}
	all := []string{""}
	for from := 0; len(all) < 30000; {
		to := len(all)
		for _, s := range all[from:to] {
			for _, x := range letters {
				all = append(all, s+x)
			}
		}
		from = to
	}
	for _, s := range all {
		agrees(t, s)
		agrees(t, "back "+s)
		agrees(t, "back 1 2 "+s)
		agrees(t, "back ="+s)
	}
}

// randomEvent answers one that Print takes, or one of which a part is out of its bounds.
func randomEvent(src *rand.Rand, right bool) api.In {
	number := func() int {
		switch src.Intn(3) {
		case 0:
			return 0
		case 1:
			return src.Intn(20)
		}
		return src.Intn(numberMost + 1)
	}
	e := api.In{What: src.Intn(8), A: number(), B: number(), Draw: number()}
	if src.Intn(2) == 0 {
		e.Bytes = make([]byte, src.Intn(1<<src.Intn(9)))
		src.Read(e.Bytes)
	}
	if !right {
		part := []*int{&e.What, &e.A, &e.B, &e.Draw}[src.Intn(4)]
		*part = []int{-1, -src.Int() - 1, numberMost + 1, numberMost + 1 + src.Intn(1<<40)}[src.Intn(4)]
	}
	return e
}

// P23.3: Line undoes Print.
func TestUndo(t *testing.T) {
	src := rand.New(rand.NewSource(1))
	for range 20000 {
		e := randomEvent(src, true)
		s, no := script.Print(e)
		if no != api.OK || !lineForm.MatchString(s) || strings.HasSuffix(s, " 0") || strings.Contains(s, " 0 =") {
			t.Fatalf("Print(%v) = %q, %d", e, s, no)
		}
		mustPrint(t, e, s)
		mustParse(t, s, e)
		mustNotPrint(t, randomEvent(src, false), api.ErrForm)
	}
}

// P23.1, P23.3: a script of many events' lines is those events, also between remarks; a bad line is found, wherever it stands.
func TestRandomScripts(t *testing.T) {
	src := rand.New(rand.NewSource(2))
	for range 500 {
		var events []api.In
		var lines []string
		for range src.Intn(40) {
			switch src.Intn(4) {
			case 0:
				lines = append(lines, "")
			case 1:
				lines = append(lines, "#"+strings.Repeat(" x", src.Intn(3)))
			default:
				events = append(events, randomEvent(src, true))
				s, _ := script.Print(events[len(events)-1])
				lines = append(lines, s)
			}
		}
		text := strings.Join(lines, "\n")
		if len(text) > api.MaxScript {
			continue
		}
		mustParse(t, text, events...)
		at := src.Intn(len(lines) + 1)
		mustFail(t, strings.Join(slices.Insert(slices.Clone(lines), at, "tick 1 "), "\n"), at+1, api.ErrForm)
	}
}

// P1, P23.1: texts that are none, beside the plain model; nothing panics.
func TestRandomTexts(t *testing.T) {
	src := rand.New(rand.NewSource(3))
	parts := append(tokens(), "\n", "\n", "\n", " ", "tick\n", "tick\n", "back 0 1\n", "budget 1 99\n", "open 0\n", "#", "\x00", "\r\n")
	for range 20000 {
		var text strings.Builder
		for range src.Intn(30) {
			if src.Intn(20) == 0 {
				text.WriteByte(byte(src.Intn(256)))
			}
			text.WriteString(parts[src.Intn(len(parts))])
			if src.Intn(3) > 0 {
				text.WriteString([]string{" ", "\n"}[src.Intn(2)])
			}
		}
		if want, n, e := plainScript(text.String()); e != api.OK {
			mustFail(t, text.String(), n, e)
		} else {
			mustParse(t, text.String(), want...)
		}
	}
}
