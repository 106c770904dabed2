package naive

import "ropewalk/api"

// room is how many matches of rules' first conditions there may still be.
type room struct{ left int }

func newRoom() *room { return &room{api.MaxTokens} }

// take panics, if there are too many: there is no way back out of a search that would be as short.
func (r *room) take() {
	if r.left == 0 {
		panic(api.ErrMany)
	}
	r.left--
}

// caught tells the error that do panics with: none, if it comes to its end.
func caught(do func()) (err api.Errno) {
	defer func() {
		if thrown := recover(); thrown != nil {
			err = thrown.(api.Errno)
		}
	}()
	do()
	return api.OK
}
