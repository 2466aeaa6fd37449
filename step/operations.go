package step

import (
	"slices"

	"allotment/api"
	"allotment/place"
)

// operation is what a step of one Op does. What it gives shares memory with what was handed in, none of which it changes.
type operation func(t api.Node, s api.Step) (api.Node, api.Errno)

// operations gives what steps do, by their Op; there is none at 0.
func operations() [api.StText + 1]operation {
	return [...]operation{api.StInsert: insert, api.StDelete: remove, api.StMove: move, api.StText: write}
}

func insert(t api.Node, s api.Step) (api.Node, api.Errno) {
	out, e := put(t, s.Parent, s.Place, s.Sub)
	if e != api.OK {
		return api.Node{}, e // ahead of what Sub's ids are
	}
	return out, fresh(t, s.Sub)
}

func remove(t api.Node, s api.Step) (api.Node, api.Errno) {
	path, ok := place.Path(t, s.Id)
	switch {
	case !ok:
		return api.Node{}, api.ErrNone
	case len(path) == 0:
		return api.Node{}, api.ErrRoot
	}
	out, _ := take(t, path)
	return out, api.OK
}

func move(t api.Node, s api.Step) (api.Node, api.Errno) {
	path, ok := place.Path(t, s.Id)
	_, parent := place.Path(t, s.Parent)
	switch {
	case !ok || !parent:
		return api.Node{}, api.ErrNone
	case len(path) == 0:
		return api.Node{}, api.ErrRoot
	case place.Within(t, s.Id, s.Parent):
		return api.Node{}, api.ErrLoop
	}
	out, sub := take(t, path)
	return put(out, s.Parent, s.Place, sub) // the first of Parent's id is the same one still, as it wasn't in what was taken
}

func write(t api.Node, s api.Step) (api.Node, api.Errno) {
	path, ok := place.Path(t, s.Id)
	if !ok {
		return api.Node{}, api.ErrNone
	}
	return along(t, path, func(n *api.Node) { n.Text = s.Text }), api.OK
}

// put gives t with sub as the kid at that place of the first node of the id parent.
func put(t api.Node, parent, at int, sub api.Node) (api.Node, api.Errno) {
	path, ok := place.Path(t, parent)
	if !ok {
		return api.Node{}, api.ErrNone
	}
	e := api.ErrArg
	out := along(t, path, func(n *api.Node) {
		if at >= 0 && at <= len(n.Kids) {
			n.Kids, e = slices.Insert(n.Kids, at, sub), api.OK
		}
	})
	return out, e
}

// take gives t without the node to which the path goes, and that node. The path isn't the root's.
func take(t api.Node, path []int) (out, taken api.Node) {
	last := len(path) - 1
	out = along(t, path[:last], func(n *api.Node) {
		at := path[last]
		taken = n.Kids[at]
		n.Kids = slices.Delete(n.Kids, at, at+1)
	})
	return out, taken
}

// along gives t with the node to which the path goes changed. The nodes along the path are new, and so are their rows of kids; all others are t's own.
func along(t api.Node, path []int, change func(*api.Node)) api.Node {
	var down func(n *api.Node, path []int)
	down = func(n *api.Node, path []int) {
		n.Kids = slices.Clone(n.Kids)
		if len(path) == 0 {
			change(n)
			return
		}
		down(&n.Kids[path[0]], path[1:])
	}
	down(&t, path)
	return t
}
