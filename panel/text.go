package panel

import (
	"strconv"

	"reelfeeder/api"
	"reelfeeder/word"
)

// Text writes a product.
func Text(p api.Product) (string, api.Errno) {
	if e := CheckProduct(p); e != api.OK {
		return "", e
	}
	number := strconv.Itoa
	lines := []string{word.Line("product", p.Key, number(p.Wide), number(p.High))}
	for _, c := range p.Placements {
		lines = append(lines, word.Line("place", c.Name, c.Part, number(c.X), number(c.Y), number(c.Quarter)))
	}
	return word.Text(lines)
}

// Read reads a product.
func Read(text string) (api.Product, int, api.Errno) {
	var p api.Product
	line, e := word.Scan(text, func(line int, words []string) bool {
		if line == 0 {
			return readProduct(&p, words)
		}
		return readPlacement(&p, words)
	})
	if e == api.OK && text == "" {
		e = api.ErrSyntax
	}
	if e == api.OK {
		e = CheckProduct(p)
	}
	if e != api.OK {
		return api.Product{}, line, e
	}
	return p, 0, api.OK
}

func readProduct(p *api.Product, words []string) bool {
	if len(words) != 4 || words[0] != "product" {
		return false
	}
	n, ok := word.Numbers(words[2:])
	if !ok {
		return false
	}
	p.Key, p.Wide, p.High = words[1], n[0], n[1]
	return true
}

func readPlacement(p *api.Product, words []string) bool {
	if len(words) != 6 || words[0] != "place" {
		return false
	}
	n, ok := word.Numbers(words[3:])
	if !ok {
		return false
	}
	p.Placements = append(p.Placements, api.Placement{Name: words[1], Part: words[2], X: n[0], Y: n[1], Quarter: n[2]})
	return true
}
