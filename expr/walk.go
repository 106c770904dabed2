package expr

import "ropewalk/api"

// walk goes through expressions, each Kid ahead of what is made of them. It keeps its way down itself, since an expression may be deeper than calls can be, and asks each operation once, since Kids may be shared, or hold themselves.
type walk struct {
	says  map[api.ExprKind]saying
	way   []step
	said  []api.Value             // what no operation on the way has taken yet
	known map[*api.Expr]api.Value // what operations said: zero, as long as they are on the way
}

// step is an operation on the way, of which so many Kids were asked.
type step struct {
	e     *api.Expr
	asked int
}

// through puts what e says behind what was said.
func (w *walk) through(e *api.Expr) api.Errno {
	err := w.meet(e)
	for err == api.OK && len(w.way) > 0 {
		err = w.goOn()
	}
	return err
}

// meet puts what e says behind what was said, if that is known, or needs no Kids; else e is on the way from now on. One that is there already holds itself, and never comes to say anything.
func (w *walk) meet(e *api.Expr) api.Errno {
	if e.Kind != api.ExprOp {
		_, err := w.say(e, 0)
		return err
	}
	v, met := w.known[e]
	if !met {
		w.known[e] = api.Value{}
		w.way = append(w.way, step{e: e})
		return api.OK
	}
	if v == (api.Value{}) {
		return api.ErrArg
	}
	w.said = append(w.said, v)
	return api.OK
}

// goOn asks the next Kid of the last operation on the way, or, behind all of them, the operation itself.
func (w *walk) goOn() api.Errno {
	last := &w.way[len(w.way)-1]
	e := last.e
	if last.asked < len(e.Kids) {
		last.asked++
		return w.meet(&e.Kids[last.asked-1])
	}
	v, err := w.say(e, len(e.Kids))
	w.known[e] = v
	w.way = w.way[:len(w.way)-1]
	return err
}

// say takes what so many Kids said, and puts what e makes of it in their place.
func (w *walk) say(e *api.Expr, kids int) (api.Value, api.Errno) {
	say, is := w.says[e.Kind]
	if !is {
		return api.Value{}, api.ErrArg
	}
	ahead := len(w.said) - kids
	v, err := say(e, w.said[ahead:]...)
	w.said = append(w.said[:ahead], v)
	return v, err
}
