package pattern

import (
	"slices"
	"strings"

	"ropewalk/api"
)

func wellMade(e Env) bool {
	if len(e.Has) != len(e.Values) {
		return false
	}
	for i, there := range e.Has {
		if !there && e.Values[i] != (api.Value{}) {
			return false
		}
	}
	return true
}

func rows(e Env) Env {
	return Env{Has: slices.Clone(e.Has), Values: slices.Clone(e.Values)}
}

// own copies texts, too: names come out of arguments.
func own(e Env) Env {
	told := rows(e)
	for i, v := range told.Values {
		told.Values[i].Text = strings.Clone(v.Text)
	}
	return told
}
