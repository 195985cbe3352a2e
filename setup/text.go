package setup

import (
	"reelfeeder/api"
	"reelfeeder/word"
)

// noFeeder is the line of a slot without a feeder.
const noFeeder = "-"

// Text writes a setup.
func Text(s []string) (string, api.Errno) {
	if e := CheckSetup(s); e != api.OK {
		return "", e
	}
	var lines []string
	for _, part := range s {
		if part == none {
			part = noFeeder
		}
		lines = append(lines, word.Line(part))
	}
	return word.Text(lines)
}

// Read reads a setup.
func Read(text string) ([]string, int, api.Errno) {
	var s []string
	line, e := word.Scan(text, func(_ int, words []string) bool {
		if len(words) != 1 {
			return false
		}
		part := words[0]
		if part == noFeeder {
			part = none
		}
		s = append(s, part)
		return true
	})
	if e == api.OK {
		e = CheckSetup(s)
	}
	if e != api.OK {
		return nil, line, e
	}
	return s, 0, api.OK
}
