// Package must ends a computation of many steps at the first step that returns an error.
package must

import "verdigris/api"

// failure is what a step that fails ends the computation with.
type failure struct {
	errno api.Errno
}

// Get returns the result of a step, or ends the computation with its error.
func Get[T any](result T, e api.Errno) T {
	Pass(e)
	return result
}

// Pass ends the computation with an error, unless it is OK.
func Pass(e api.Errno) {
	if e != api.OK {
		panic(failure{e})
	}
}

// Hold ends the computation with an error, unless a condition holds.
func Hold(condition bool, e api.Errno) {
	if !condition {
		panic(failure{e})
	}
}

// Do returns the result of a computation, or the error that ended it.
func Do[T any](compute func() T) (result T, e api.Errno) {
	defer func() {
		if reason := recover(); reason != nil {
			var none T
			result, e = none, api.ErrFail
			if f, ok := reason.(failure); ok {
				e = f.errno
			}
		}
	}()
	return compute(), api.OK
}
