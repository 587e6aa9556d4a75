// Package mark: documents as text: see doc/02-mark.md.
package mark

import (
	"strings"

	"pathfindery/api"
	"pathfindery/doc"
	"pathfindery/text"
)

// Show: see the chapter.
func Show(d api.Doc) (string, api.Errno) {
	if err := doc.Check(d); err != api.OK {
		return "", err
	}
	var b strings.Builder
	for i, x := range d.Nodes {
		if i > 0 {
			showLink(&b, d.Nodes, i)
		}
		showNode(&b, x)
	}
	closeUpTo(&b, d.Nodes, -1)
	return b.String(), api.OK
}

// Read: see the chapter.
func Read(s string) (api.Doc, api.Errno) { return text.Whole(s, readDoc) }
