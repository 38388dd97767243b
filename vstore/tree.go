package vstore

import (
	"slices"
	"sort"

	"linnet/api"
	"linnet/path"
)

type entry struct {
	path string
	node *node
}

func (e entry) stat() api.Stat {
	n := e.node
	return api.Stat{Path: e.path, Kind: n.kind, Size: len(n.now), Meta: n.meta, Stamp: n.stamp}
}

// tree is names by Less: so what is Under one stands directly behind it.
type tree []entry

// nameAct is a name that is made (there is no from), one that is taken away (there is no to), or one that goes elsewhere.
type nameAct struct {
	from, to string
	made     *node
}

// place is where a name stands, or would.
func (t tree) place(at string) int {
	return sort.Search(len(t), func(i int) bool { return !path.Less(t[i].path, at) })
}

// run is a name, if it is there, and all that is Under it.
func (t tree) run(at string) tree {
	from := t.place(at)
	to := from
	for to < len(t) && (t[to].path == at || path.Under(t[to].path, at)) {
		to++
	}
	return t[from:to]
}

// find is what stands at a name, or nil.
func (t tree) find(at string) *node {
	i := t.place(at)
	if i == len(t) || t[i].path != at {
		return nil
	}
	return t[i].node
}

// takes tells whether a new name may stand there.
func (t tree) takes(at string) api.Errno {
	if t.find(at) != nil {
		return api.ErrThere
	}
	above := path.Parent(at)
	if above == "" {
		return api.OK
	}
	dir := t.find(above)
	switch {
	case dir == nil:
		return api.ErrNone
	case dir.kind != api.Dir:
		return api.ErrKind
	}
	return api.OK
}

// moved is a run as it would be with another first name; their order stays.
func (t tree) moved(from, to string) tree {
	t = slices.Clone(t)
	for i, e := range t {
		t[i].path = to + e.path[len(from):]
	}
	return t
}

// apply does acts that may be done.
func (t *tree) apply(acts ...nameAct) {
	for _, a := range acts {
		switch {
		case a.from == "":
			t.put(tree{{a.to, a.made}})
		case a.to == "":
			t.take(a.from)
		default:
			t.put(t.take(a.from).moved(a.from, a.to))
		}
	}
}

func (t *tree) put(run tree) {
	*t = slices.Insert(*t, t.place(run[0].path), run...)
}

func (t *tree) take(at string) tree {
	i := t.place(at)
	run := slices.Clone(t.run(at))
	*t = slices.Delete(*t, i, i+len(run))
	return run
}
