package syntax

import (
	"slices"

	"wireloom/api"
)

func sameFile(f, g api.File) bool {
	return slices.EqualFunc(f.Modules, g.Modules, sameModule)
}

func sameModule(m, n api.Module) bool {
	return m.Name == n.Name && m.Clock == n.Clock && slices.Equal(m.Params, n.Params) && slices.EqualFunc(m.Items, n.Items, sameItem)
}

func sameItem(i, k api.Item) bool {
	return i.Kind == k.Kind && i.Name == k.Name && i.Of == k.Of && i.Rule == k.Rule &&
		i.Width == k.Width && i.Depth == k.Depth && i.Init == k.Init &&
		sameExpr(i.A, k.A) && sameExpr(i.B, k.B) && sameExpr(i.C, k.C) &&
		slices.Equal(i.Args, k.Args) && slices.Equal(i.Ports, k.Ports)
}

func sameExpr(d, e api.Expr) bool {
	return d.Op == e.Op && d.Name == e.Name && d.K == e.K && d.W == e.W && slices.EqualFunc(d.Args, e.Args, sameExpr)
}
