package extract

import (
	"errors"

	"witness/api"
)

// refusal is what a walk gives up with; a type of its own, so that no other panic is taken for one.
type refusal struct {
	errno api.Errno
}

func (r refusal) Error() string { return r.errno.Error() }

// refuse gives up, unless the answer is OK.
func refuse(errno api.Errno) {
	if errno != api.OK {
		panic(refusal{errno})
	}
}

// refusedWith is the error of what was recovered. What is no refusal is a fault of the program, and is not made an answer of.
func refusedWith(told any) api.Errno {
	var own refusal
	if err, ok := told.(error); ok {
		if errors.As(err, &own) {
			return own.errno
		}
	}
	panic(told)
}
