package tree

import (
	"strconv"
	"strings"

	"allotment/api"
)

// Show gives t as a text (P6.2).
func Show(t api.Node) string {
	var s strings.Builder
	ahead := 0
	for depth, n := range each([]api.Node{t}) {
		s.WriteString(between(ahead, depth))
		s.WriteString(strconv.Itoa(n.Id) + ":" + strconv.Itoa(n.Kind))
		if n.Text != "" {
			s.WriteString(quoted(n.Text))
		}
		ahead = depth
	}
	s.WriteString(closed(ahead - 1))
	return s.String()
}

// between gives what stands between two nodes that follow one another in the walk, by their depths; the root has 0 ahead of it.
func between(ahead, depth int) string {
	switch {
	case ahead == 0:
		return ""
	case depth > ahead:
		return "("
	}
	return closed(ahead-depth) + ","
}

// closed ends the kids of so many nodes.
func closed(count int) string {
	return strings.Repeat(")", count)
}

// quoted goes by bytes, as a text may be any bytes.
func quoted(text string) string {
	b := []byte{'"'}
	for i := range len(text) {
		if text[i] == '"' || text[i] == '\\' {
			b = append(b, '\\')
		}
		b = append(b, text[i])
	}
	return string(append(b, '"'))
}
