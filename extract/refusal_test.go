package extract

import (
	"errors"
	"testing"

	"witness/api"
)

// around is an error around another one.
type around struct{ inner error }

func (a around) Error() string { return "around " + a.inner.Error() }

func (a around) Unwrap() error { return a.inner }

// recovered is what a call panics with.
func recovered(call func()) (told any) {
	defer func() { told = recover() }()
	call()
	return nil
}

// TestOwnRefusals are told from what others panic with: that goes on as it is.
func TestOwnRefusals(t *testing.T) {
	for _, own := range []error{refusal{api.ErrTree}, around{refusal{api.ErrTree}}, around{around{refusal{api.ErrTree}}}} {
		if e := refusedWith(own); e != api.ErrTree {
			t.Errorf("12.2: the refusal %v is %d", own, e)
		}
	}
	for _, other := range []any{errors.New("another"), api.ErrTree, around{api.ErrTree}, "text", 7} {
		if told := recovered(func() { refusedWith(other) }); told != other {
			t.Errorf("12.2: %v of somebody else goes on as %v", other, told)
		}
	}
	if told := recovered(func() { refuse(api.ErrPower) }); told != any(refusal{api.ErrPower}) {
		t.Errorf("12.2: it gives up with %v", told)
	}
	if told := recovered(func() { refuse(api.OK) }); told != nil {
		t.Errorf("12.2: OK is given up with: %v", told)
	}
	if words := (refusal{api.ErrTree}).Error(); words != api.ErrTree.Error() {
		t.Errorf("the words of a refusal: %s", words)
	}
}
