package script

import (
	"iter"
	"slices"
	"strings"

	"aqueduct/api"
)

// Places of words: a name, up to three numbers, bytes.
const (
	nameAt   = 0
	numberAt = 1
	dataAt   = 4
	endAt    = 5
)

// readScript goes over a script's lines, up to the first fault.
func readScript(s string) ([]api.In, error) {
	if len(s) > api.MaxScript {
		return nil, fault{0, api.ErrLong}
	}
	var events []api.In
	count := 0
	for _, line := range pieces(s, newline) {
		count++
		if line == "" || strings.HasPrefix(line, remark) {
			continue
		}
		event, err := readLine(line)
		if err == nil && len(events) == api.MaxEvents {
			err = api.ErrLong
		}
		if err != nil {
			return nil, fault{count, err}
		}
		events = append(events, event)
	}
	return events, nil
}

// readLine goes over a line's words, up to the first that can't stand there.
func readLine(s string) (api.In, error) {
	if len(s) > api.MaxScript {
		return api.In{}, fault{0, api.ErrLong}
	}
	var d draft
	for at, text := range pieces(s, blank) {
		w, err := readWord(text)
		if err == nil {
			err = d.add(w)
		}
		if err != nil {
			return api.In{}, fault{at, err}
		}
	}
	return d.event, nil
}

// pieces tells what stands between such gaps, of one byte each, and where each piece begins.
func pieces(s string, gap rune) iter.Seq2[int, string] {
	return func(yield func(int, string) bool) {
		begin := 0
		for at, r := range s {
			if r != gap {
				continue
			}
			if !yield(begin, s[begin:at]) {
				return
			}
			begin = at + 1
		}
		yield(begin, s[begin:])
	}
}

// readWord reads a word: how it begins tells what it is to be.
func readWord(s string) (word, error) {
	if text, ok := strings.CutPrefix(s, mark); ok {
		return readData(text)
	}
	if s != "" && digit(rune(s[0]), 10) >= 0 {
		return readNumber(s)
	}
	return name(s), nil
}

func readNumber(s string) (word, error) {
	if len(s) > mostDigits || len(s) > 1 && s[0] == '0' {
		return nil, api.ErrForm
	}
	sum := 0
	for _, r := range s {
		n := digit(r, 10)
		if n < 0 {
			return nil, api.ErrForm
		}
		sum = 10*sum + n
	}
	return number(sum), nil
}

func readData(s string) (word, error) {
	if len(s)%2 != 0 {
		return nil, api.ErrForm
	}
	var out data
	high := 0
	for at, r := range s {
		n := digit(r, 16)
		if n < 0 {
			return nil, api.ErrForm
		}
		if at%2 == 0 {
			high = n
		} else {
			out = append(out, byte(high<<4|n))
		}
	}
	return out, nil
}

// digit answers the number that a digit stands for; -1, if it is none of that base.
func digit(r rune, base int) int {
	return strings.IndexRune(digits[:base], r)
}

// draft is an event of which some words have been read.
type draft struct {
	event api.In
	next  int // the least place that the next word can have
}

// add takes the next word, if it can stand there.
func (d *draft) add(w word) error {
	switch x := w.(type) {
	case name:
		what := slices.Index(kinds(), string(x))
		if what < 0 || d.next != nameAt {
			return api.ErrForm
		}
		d.event.What = what
		d.next = numberAt
	case number:
		if d.next < numberAt || d.next >= dataAt {
			return api.ErrForm
		}
		*d.number() = int(x)
		d.next++
	case data:
		if d.next < numberAt || d.next > dataAt {
			return api.ErrForm
		}
		d.event.Bytes = x
		d.next = endAt
	}
	return nil
}

// number answers where the next number belongs.
func (d *draft) number() *int {
	return [...]*int{&d.event.A, &d.event.B, &d.event.Draw}[d.next-numberAt]
}
