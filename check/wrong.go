package check

import "cachet/api"

// What is given up by, where an instruction may not run.
type (
	unset  struct{} // something that it needs is not known
	zero   struct{} // what it divides by may be 0
	beyond struct{} // there may be no such byte
	astray struct{} // it leads behind the last instruction
)

// told tells the error of what was given up by; where nothing was, there is none.
func told(wrong any) api.Errno {
	switch wrong.(type) {
	case nil:
		return api.OK
	case unset:
		return api.ErrUnset
	case zero:
		return api.ErrDivide
	case beyond:
		return api.ErrBounds
	case astray:
		return api.ErrJump
	}
	// Nothing else is given up by here; were it to come, an extension must not be held to be good for it.
	panic(wrong)
}
