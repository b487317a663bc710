package world

import (
	"strconv"
	"strings"
)

// Text returns the text of w. P14.3.
func (w World) Text() string {
	var l []string
	for obj := range w.Objects() {
		l = append(l, strconv.Itoa(int(obj))+"="+w.objects[obj].Text())
	}
	if len(l) == 0 {
		return "-"
	}
	return strings.Join(l, " ")
}
