package tour

import (
	"strconv"

	"reelfeeder/api"
	"reelfeeder/word"
)

// Text writes points.
func Text(p []api.Point) (string, api.Errno) {
	if e := CheckPoints(p, api.MaxLong); e != api.OK {
		return "", e
	}
	var lines []string
	for _, point := range p {
		lines = append(lines, word.Line(strconv.Itoa(point.X), strconv.Itoa(point.Y)))
	}
	return word.Text(lines)
}

// Read reads points.
func Read(text string) ([]api.Point, int, api.Errno) {
	var p []api.Point
	line, e := word.Scan(text, func(_ int, words []string) bool {
		n, ok := word.Numbers(words)
		if !ok || len(n) != 2 {
			return false
		}
		p = append(p, api.Point{X: n[0], Y: n[1]})
		return true
	})
	if e == api.OK {
		e = CheckPoints(p, api.MaxLong)
	}
	if e != api.OK {
		return nil, line, e
	}
	return p, 0, api.OK
}
