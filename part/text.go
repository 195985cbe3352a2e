package part

import (
	"strconv"

	"reelfeeder/api"
	"reelfeeder/word"
)

// The first words of the lines of alternates.
const (
	oneWay   = "use"
	bothWays = "both"
)

// Text writes a catalogue.
func Text(c api.Catalogue) (string, api.Errno) {
	if e := CheckCatalogue(c); e != api.OK {
		return "", e
	}
	var lines []string
	for _, p := range c.Parts {
		lines = append(lines, word.Line("part", p.Key, p.Package, strconv.Itoa(p.Level), strconv.Itoa(p.Bake)))
	}
	for _, a := range c.Alternates {
		way := oneWay
		if a.Both {
			way = bothWays
		}
		lines = append(lines, word.Line(way, a.By, "for", a.For))
	}
	return word.Text(lines)
}

// Read reads a catalogue.
func Read(text string) (api.Catalogue, int, api.Errno) {
	var c api.Catalogue
	line, e := word.Scan(text, func(_ int, words []string) bool {
		if words[0] == "part" {
			return readPart(&c, words)
		}
		return readAlternate(&c, words)
	})
	if e == api.OK {
		e = CheckCatalogue(c)
	}
	if e != api.OK {
		return api.Catalogue{}, line, e
	}
	return c, 0, api.OK
}

// readPart reads the words of a part, which cannot come behind an alternate.
func readPart(c *api.Catalogue, words []string) bool {
	if len(words) != 5 || len(c.Alternates) > 0 {
		return false
	}
	n, ok := word.Numbers(words[3:])
	if !ok {
		return false
	}
	c.Parts = append(c.Parts, api.Part{Key: words[1], Package: words[2], Level: n[0], Bake: n[1]})
	return true
}

func readAlternate(c *api.Catalogue, words []string) bool {
	if len(words) != 4 || words[0] != oneWay && words[0] != bothWays || words[2] != "for" {
		return false
	}
	c.Alternates = append(c.Alternates, api.Alternate{For: words[3], By: words[1], Both: words[0] == bothWays})
	return true
}
