package script

import (
	"strconv"
	"strings"

	"aqueduct/api"
)

const (
	newline    = '\n' // between lines
	blank      = ' '  // between words
	remark     = "#"  // a line that begins with it is no event's
	mark       = "="  // bytes begin with it
	digits     = "0123456789abcdef"
	numberMost = 999999999
	mostDigits = 9 // of a number
)

// word is a word of a line: a name, a number, or bytes.
type word interface {
	text() string
}

type name string

type number int

type data []byte

func (w name) text() string {
	return string(w)
}

func (w number) text() string {
	return strconv.Itoa(int(w))
}

func (w data) text() string {
	var s strings.Builder
	s.WriteString(mark)
	for _, b := range w {
		s.WriteByte(digits[b>>4])
		s.WriteByte(digits[b&15])
	}
	return s.String()
}

// join answers the line of such words.
func join(l ...word) string {
	var s strings.Builder
	for n, w := range l {
		if n > 0 {
			s.WriteByte(blank)
		}
		s.WriteString(w.text())
	}
	return s.String()
}

// kinds answers the names of the kinds of events.
func kinds() []string {
	return []string{
		api.InOpen:   "open",
		api.InBytes:  "bytes",
		api.InClose:  "close",
		api.InBudget: "budget",
		api.InTick:   "tick",
		api.InProbe:  "probe",
		api.InBack:   "back",
		api.InStop:   "stop",
	}
}

// canStand tells whether each part of an event but its bytes can stand on a line.
func canStand(e api.In) bool {
	for _, n := range [...]int{e.A, e.B, e.Draw} {
		if n < 0 || n > numberMost {
			return false
		}
	}
	return e.What >= 0 && e.What < len(kinds())
}

// words answers those of an event: of the numbers, those up to the last that is not 0.
func words(e api.In) []word {
	l := []word{name(kinds()[e.What])}
	numbers := [...]int{e.A, e.B, e.Draw}
	count := len(numbers)
	for count > 0 && numbers[count-1] == 0 {
		count--
	}
	for _, n := range numbers[:count] {
		l = append(l, number(n))
	}
	if len(e.Bytes) > 0 {
		l = append(l, data(e.Bytes))
	}
	return l
}

// outWords answers those of what a proxy does; none of another kind.
func outWords(o api.Out) []word {
	switch o.What {
	case api.OutBytes:
		return []word{name("bytes"), number(o.A), data(o.Bytes)}
	case api.OutClose:
		return []word{name("close"), number(o.A)}
	case api.OutDial:
		return []word{name("dial"), number(o.A)}
	}
	return nil
}
