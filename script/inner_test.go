package script

import (
	"errors"
	"testing"

	"aqueduct/api"
)

// An error in another one has the place of the outer one.
func TestAsk(t *testing.T) {
	line := fault{7, api.ErrForm}
	script := fault{3, line}
	if place, e := ask(script); place != 3 || e != api.ErrForm {
		t.Errorf("ask = %d, %d", place, e)
	}
	if place, e := ask(line); place != 7 || e != api.ErrForm {
		t.Errorf("ask = %d, %d", place, e)
	}
	if place, e := ask(api.ErrLong); place != 0 || e != api.ErrLong {
		t.Errorf("ask = %d, %d", place, e)
	}
	if place, e := ask(nil); place != 0 || e != api.OK {
		t.Errorf("ask = %d, %d", place, e)
	}
	if !errors.Is(script, line) || script.Error() != "error 4 at 7 at 3" {
		t.Errorf("%v", script)
	}
}
