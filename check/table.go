package check

import "slices"

// table is who is known: names, each at the place at which it came.
type table struct{ names []string }

func (t *table) known(name string) bool {
	return slices.Contains(t.names, name)
}

func (t *table) place(name string) int {
	return slices.Index(t.names, name)
}

func (t *table) size() int {
	return len(t.names)
}

func (t *table) add(name string) {
	t.names = append(t.names, name)
}

// declared is a table of declarations, and what was made of each of them.
type declared[T any] struct {
	table
	made []T
}

func (d *declared[T]) declare(name string, made T) {
	d.add(name)
	d.made = append(d.made, made)
}
