package memory

import (
	"strings"

	"ropewalk/api"
	"ropewalk/value"
)

// saying is what a fact says: of which type it is, and its values, in an array, so that two are compared as they stand. Behind the last value are zero ones.
type saying struct {
	kind   int
	many   int
	values [api.MaxFields]api.Value
}

// say answers false, unless a fact of that type and these values may be.
func say(kind int, args ...api.Value) (s saying, may bool) {
	if kind < 0 || kind >= api.MaxTypes || len(args) > api.MaxFields {
		return saying{}, false
	}
	s = saying{kind: kind, many: len(args)}
	for i, v := range args {
		if !value.Right(v) {
			return saying{}, false
		}
		s.values[i] = v
	}
	return s, true
}

// own copies texts, too: names come out of arguments.
func (s saying) own() saying {
	for i, v := range s.values {
		s.values[i].Text = strings.Clone(v.Text)
	}
	return s
}

// args are new memory, nil if there are none.
func (s saying) args() []api.Value {
	told := s.own()
	return append([]api.Value(nil), told.values[:told.many]...)
}
