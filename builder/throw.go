package builder

import "granary/api"

// must gives up what is being done, if a call was refused: no function between has to hand the error up.
func must(e api.Errno) {
	if e != api.OK {
		panic(e)
	}
}

// caught is what must has thrown. Anything else is a fault of the program, which must not look like an answer.
func caught(thrown any) api.Errno {
	if thrown == nil {
		return api.OK
	}
	e, ok := thrown.(api.Errno)
	if !ok {
		panic(thrown)
	}
	return e
}
