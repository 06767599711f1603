package run

import (
	"errors"
	"testing"

	"wanderwire/api"
)

// TestZ1Names: an error is answered by its name, also where it is only wrapped.
func TestZ1Names(t *testing.T) {
	for _, c := range []struct {
		err  error
		want string
	}{
		{errBad, "bad"}, {api.ErrRange, "ErrRange"}, {api.ErrSyntax, "ErrSyntax"}, {api.ErrShape, "ErrShape"}, {api.ErrFull, "ErrFull"},
		{api.ErrNone, "ErrNone"}, {api.ErrState, "ErrState"}, {api.ErrClash, "ErrClash"}, {api.ErrFlow, "ErrFlow"},
		{errors.Join(errors.New("more words"), api.ErrFull), "ErrFull"},
		{lineError{lineError{api.ErrState}}, "ErrState"},
	} {
		if got := (lineError{c.err}).name(); got != c.want {
			t.Errorf("%v: %q; want %q", c.err, got, c.want)
		}
	}
}

// TestZ1NoOrder: what the table has not is no call, also where no word kept it away.
func TestZ1NoOrder(t *testing.T) {
	d, err := newDesk()
	if err != nil {
		t.Fatal(err)
	}
	if got, err := d.call(order{name: "none"}); got != "" || !errors.Is(err, errBad) {
		t.Errorf("none: %q, %v; want errBad", got, err)
	}
	for name, w := range d.wants {
		if w.numbers > mostNumbers || w.words > 1 {
			t.Errorf("%s wants more than an order holds: %v", name, w)
		}
		if _, err := d.call(order{name: name}); errors.Is(err, errBad) {
			t.Errorf("%s: errBad; want a call", name)
		}
	}
}
