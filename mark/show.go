package mark

import (
	"strings"

	"pathfindery/api"
)

func showNode(b *strings.Builder, x api.Node) {
	b.WriteString(x.Tag)
	if x.Id != "" {
		b.WriteString("#" + x.Id)
	}
	for _, class := range x.Classes {
		b.WriteString("." + class)
	}
	for _, a := range x.Attrs {
		b.WriteString("[" + a.Name + `="` + a.Value + `"]`)
	}
}

// showLink shows what stands between element n and the one ahead of it.
func showLink(b *strings.Builder, nodes []api.Node, n int) {
	if nodes[n].Up == n-1 {
		b.WriteString("(")
		return
	}
	closeUpTo(b, nodes[:n], nodes[n].Up)
	b.WriteString(" ")
}

// closeUpTo closes what the last element ends, below the element up.
func closeUpTo(b *strings.Builder, nodes []api.Node, up int) {
	for n := len(nodes) - 1; nodes[n].Up != up; n = nodes[n].Up {
		b.WriteString(")")
	}
}
