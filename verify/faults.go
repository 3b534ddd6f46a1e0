package verify

import (
	"errors"
	"strconv"

	"demotic/api"
)

// problem is what is wrong with an operation.
type problem api.Errno

func (p problem) Error() string { return "error " + strconv.Itoa(int(p)) }

// located is what is wrong with an operation, and where that stands. (Fault itself is plain data: it would be printed as something else if it were an error.)
type located struct {
	cause problem
	f     int
	path  []int
}

func (x located) Error() string {
	text := x.cause.Error() + " in function " + strconv.Itoa(x.f)
	for _, n := range x.path {
		text += " " + strconv.Itoa(n)
	}
	return text
}

func (x located) Unwrap() error { return x.cause }

// faultOf returns an error of an operation as data; the zero value if there is none.
func faultOf(err error) Fault {
	var where located
	var what problem
	if !errors.As(err, &where) || !errors.As(err, &what) {
		return Fault{}
	}
	return Fault{where.f, where.path, api.Errno(what)}
}
