package union

import (
	"bytes"
	"cmp"
	"strings"

	"dunnage/api"
	"dunnage/layer"
	"dunnage/marks"
)

// isTold tells whether a change is one that layer.Changes may tell: if no other one, its shortest entry has it.
func isTold(c api.Change) bool {
	l, e, _ := layer.Changes(shortest(c))
	return e == api.OK && isSame(l[0], c)
}

// shortest is the entry of a change with the shortest name and link: a longer one may be too long for a tar.
func shortest(c api.Change) api.Entry {
	switch c.Kind {
	case api.Put:
		e := c.Node
		e.Name = cmp.Or(tarName(c.Path), ".")
		if e.Kind == api.Hard {
			e.Link = tarName(e.Link)
		}
		return e
	case api.Whiteout:
		last := strings.LastIndexByte(c.Path, '/') + 1
		return api.Entry{Kind: api.File, Name: tarName(c.Path[:last] + marks.Whiteout + c.Path[last:])}
	case api.Opaque:
		return api.Entry{Kind: api.File, Name: tarName(c.Path) + "/" + marks.Opaque}
	}
	return api.Entry{}
}

func isSame(a, b api.Change) bool {
	x, y := a.Node, b.Node
	return a.Kind == b.Kind && a.Path == b.Path && x.Name == y.Name && x.Kind == y.Kind &&
		x.Mode == y.Mode && x.Link == y.Link && bytes.Equal(x.Data, y.Data)
}
