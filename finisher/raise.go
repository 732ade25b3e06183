package finisher

import "pianola/api"

// raiseIf raises an error if something is wrong.
func raiseIf(wrong bool, e api.Errno) {
	if wrong {
		panic(e)
	}
}

// caught returns the error that a call raises, or OK.
func caught(call func()) (e api.Errno) {
	defer func() {
		if raised := recover(); raised != nil {
			e = raised.(api.Errno)
		}
	}()
	call()
	return api.OK
}
