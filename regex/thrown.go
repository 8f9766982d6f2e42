package regex

import (
	"cabochon/api"
)

// caught does something, and returns the error that it throws.
func caught(do func()) (err api.Errno) {
	defer func() {
		if thrown := recover(); thrown != nil {
			err = thrown.(api.Errno)
		}
	}()
	do()
	return api.OK
}

// require throws ErrForm unless ok.
func require(ok bool) {
	if !ok {
		panic(api.ErrForm)
	}
}

// step counts a step, and throws ErrBudget if it is one too many.
func (m *matcher) step() {
	if m.steps == m.budget {
		panic(api.ErrBudget)
	}
	m.steps++
}
