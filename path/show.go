package path

import (
	"strings"

	"pathfindery/api"
	"pathfindery/nth"
)

func showList(b *strings.Builder, l []api.Path) {
	for i, p := range l {
		if i > 0 {
			b.WriteString(", ")
		}
		showPath(b, p)
	}
}

func showPath(b *strings.Builder, p api.Path) {
	for i, s := range p.Steps {
		if i > 0 {
			b.WriteString(links[p.Links[i-1]])
		}
		showTag(b, s.Tag)
		for _, t := range s.Tests {
			showTest(b, t)
		}
	}
}

func showTag(b *strings.Builder, tag string) {
	if tag == "" {
		tag = "*"
	}
	b.WriteString(tag)
}

func showTest(b *strings.Builder, t api.Test) {
	f := forms[t.Kind]
	b.WriteString(f.begin + t.Name + f.sign)
	if f.value {
		b.WriteString(`"` + t.Value + `"`)
	}
	if f.count {
		s, _ := nth.Show(t.Nth)
		b.WriteString(s)
	}
	showList(b, t.List)
	b.WriteString(f.end)
}
