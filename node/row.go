package node

import "ropewalk/api"

// row says where Kids stand in memory. Trees may share rows, or stand in their own: each row is gone through once, however often it is met.
type row struct {
	first *api.Node
	size  int
}

// rowOf tells one row of all Kids that are empty.
func rowOf(kids []api.Node) row {
	if len(kids) == 0 {
		return row{}
	}
	return row{&kids[0], len(kids)}
}

// descent goes down into a tree. It keeps its path itself, since a tree may be deeper than calls can be.
type descent struct {
	path  []level
	known map[row]int // how deep each one is; open, as long as it is on the path
}

const open = -1

// level is a row on the path, whose nodes ahead of next are at most deep deep.
type level struct {
	kids []api.Node
	next int
	deep int
}

func (d *descent) enter(kids []api.Node) {
	d.known[rowOf(kids)] = open
	d.path = append(d.path, level{kids: kids})
}

// step goes one node on, one row down or one up, and tells whether there is an end to what is below.
func (d *descent) step() bool {
	l := &d.path[len(d.path)-1]
	if l.next == len(l.kids) {
		d.known[rowOf(l.kids)] = l.deep
		d.path = d.path[:len(d.path)-1]
		return true
	}
	below := l.kids[l.next].Kids
	deep, met := d.known[rowOf(below)]
	if !met {
		d.enter(below) // and comes back to this node
		return true
	}
	l.deep = max(l.deep, deep+1)
	l.next++
	return deep != open
}

// comparison is of rows that stand at the same places of two trees.
type comparison struct {
	left []pair
	met  map[[2]row]struct{}
}

type pair struct{ a, b []api.Node }

// add puts two rows, of one length, to those that are left, unless they were met.
func (c *comparison) add(a, b []api.Node) {
	rows := [2]row{rowOf(a), rowOf(b)}
	if _, met := c.met[rows]; !met {
		c.met[rows] = struct{}{}
		c.left = append(c.left, pair{a, b})
	}
}

// step compares two of the rows, but for what is below, which is left for later.
func (c *comparison) step() bool {
	last := len(c.left) - 1
	p := c.left[last]
	c.left = c.left[:last]
	for i, a := range p.a {
		b := p.b[i]
		if a.Kind != b.Kind || a.Text != b.Text || a.Num != b.Num || len(a.Kids) != len(b.Kids) {
			return false
		}
		c.add(a.Kids, b.Kids)
	}
	return true
}
