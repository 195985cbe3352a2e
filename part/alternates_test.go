package part_test

import (
	"fmt"
	"math/rand"
	"slices"
	"strings"
	"testing"

	"reelfeeder/api"
	"reelfeeder/part"
)

func TestDirect(t *testing.T) {
	for _, c := range []struct {
		c    api.Catalogue
		part string
		want string
	}{
		{stock(), "a", "[b]"}, {stock(), "b", "[c]"}, {stock(), "c", "[b d]"}, {stock(), "d", "[]"},
		{ways("abcd", "ad+", "bd+", "ca", "dc"), "d", "[a b c]"},
		{ways("abcd", "ad+", "bd+", "ca", "dc"), "a", "[d]"},
		{ways("abcd", "ad+", "ba+", "ca+"), "a", "[b c d]"},
		{ways("abc", "ab", "ba"), "a", "[b]"},
	} {
		is(t, c.part, two(part.Direct(c.c, c.part)), list{c.want, api.OK})
	}
	is(t, "no such part", two(part.Direct(stock(), "e")), list{"[]", api.ErrNone})
	is(t, "no name", two(part.Direct(stock(), "")), list{"[]", api.ErrNone})
	is(t, "no parts", two(part.Direct(api.Catalogue{}, "a")), list{"[]", api.ErrNone})
}

func TestAll(t *testing.T) {
	for _, c := range []struct {
		c    api.Catalogue
		part string
		want string
	}{
		{stock(), "a", "[b c d]"}, {stock(), "b", "[c d]"}, {stock(), "c", "[b d]"}, {stock(), "d", "[]"},
		{ways("abcd", "ad", "bc", "da", "db"), "a", "[b c d]"},
		{ways("abcd", "ab", "bc", "ca"), "b", "[a c]"},
		{ways("abcd", "ab", "cd"), "a", "[b]"},
		{ways("a"), "a", "[]"},
	} {
		is(t, c.part, two(part.All(c.c, c.part)), list{c.want, api.OK})
	}
	is(t, "no such part", two(part.All(stock(), "e")), list{"[]", api.ErrNone})
}

func TestChain(t *testing.T) {
	for _, c := range []struct {
		what     string
		c        api.Catalogue
		part, by string
		want     string
		is       bool
	}{
		{"direct", stock(), "a", "b", "[a b]", true},
		{"by way of others", stock(), "a", "d", "[a b c d]", true},
		{"against both", stock(), "c", "b", "[c b]", true},
		{"against one way", stock(), "b", "a", "[]", false},
		{"itself", stock(), "c", "c", "[c]", true},
		{"itself, replaced by nothing", stock(), "d", "d", "[d]", true},
		{"apart", ways("abcd", "ab", "cd"), "a", "d", "[]", false},
		{"the shortest", ways("abcde", "ab", "ad", "bc", "ce", "de"), "a", "e", "[a d e]", true},
		{"the smallest first step", ways("abcde", "ac", "ad", "be", "ce", "de"), "a", "e", "[a c e]", true},
		{"the smallest with both", ways("abcde", "ad+", "ba+", "be", "de"), "a", "e", "[a b e]", true},
		{"the smallest before the smallest end", ways("abcdef", "ac", "ad", "bf", "ce", "db", "ef"), "a", "f", "[a c e f]", true},
		{"falling keys", ways("abcde", "cb", "dc", "ed"), "e", "b", "[e d c b]", true},
	} {
		is(t, c.what, three(part.Chain(c.c, c.part, c.by)), list{c.want, c.is, api.OK})
	}
	is(t, "no part", three(part.Chain(stock(), "x", "a")), list{"[]", false, api.ErrNone})
	is(t, "no part by", three(part.Chain(stock(), "a", "x")), list{"[]", false, api.ErrNone})
	is(t, "the same that is not there", three(part.Chain(stock(), "x", "x")), list{"[]", false, api.ErrNone})
}

func TestGroups(t *testing.T) {
	for _, c := range []struct {
		what string
		c    api.Catalogue
		want string
	}{
		{"as it is", stock(), "[[b c]]"},
		{"none", ways("abcd", "ab", "bc", "cd"), "[]"},
		{"nothing", api.Catalogue{}, "[]"},
		{"a ring", ways("abcd", "ac", "cd", "da"), "[[a c d]]"},
		{"one way each", ways("ab", "ab", "ba"), "[[a b]]"},
		{"by their first parts", ways("abcdef", "af+", "be+", "cd+"), "[[a f] [b e] [c d]]"},
		{"one after the other", ways("abcd", "ab+", "bc", "cd+"), "[[a b] [c d]]"},
		{"rings with a common part", ways("abcde", "ab", "ba", "bc", "cd", "db"), "[[a b c d]]"},
	} {
		is(t, c.what, two(part.Groups(c.c)), list{c.want, api.OK})
	}
}

// anyCatalogue is a valid catalogue of a few parts with several packages.
func anyCatalogue(r *rand.Rand) api.Catalogue {
	c := ways("abcdefg"[:1+r.Intn(7)])
	for i := range c.Parts {
		c.Parts[i].Package = string(rune('p' + r.Intn(2)))
	}
	often := 1 + r.Intn(5)
	for i, p := range c.Parts {
		for j, q := range c.Parts {
			a := api.Alternate{For: p.Key, By: q.Key, Both: r.Intn(3) == 0}
			known := slices.ContainsFunc(c.Alternates, func(b api.Alternate) bool {
				return b.For == a.By && b.By == a.For && (a.Both || b.Both)
			})
			if i != j && !known && r.Intn(often) == 0 {
				c.Alternates = append(c.Alternates, a)
			}
		}
	}
	return c
}

// simpleChains are all lists of different parts, from a last one on, in which each is directly replaced by the next.
func simpleChains(c api.Catalogue, chain string, found func(chain string)) {
	found(chain)
	last := chain[len(chain)-1:]
	for _, p := range c.Parts {
		if strings.Contains(chain, p.Key) {
			continue
		}
		for _, a := range c.Alternates {
			if a.For == last && a.By == p.Key || a.Both && a.By == last && a.For == p.Key {
				simpleChains(c, chain+p.Key, found)
			}
		}
	}
}

// best is the shortest and then smallest chain between each two parts (told as "ab").
func best(c api.Catalogue) map[string]string {
	best := map[string]string{}
	for _, p := range c.Parts {
		simpleChains(c, p.Key, func(chain string) {
			ends := p.Key + chain[len(chain)-1:]
			old, known := best[ends]
			if !known || len(chain) < len(old) || len(chain) == len(old) && chain < old {
				best[ends] = chain
			}
		})
	}
	return best
}

// TestEveryChain holds Direct, All, Chain and Groups against all chains of small catalogues.
func TestEveryChain(t *testing.T) {
	r := rand.New(rand.NewSource(2))
	for range 400 {
		c := anyCatalogue(r)
		is(t, "valid", part.CheckCatalogue(c), api.OK)
		best := best(c)
		var groups [][]string
		grouped := ""
		for _, p := range c.Parts {
			var direct, all, group []string
			for _, q := range c.Parts {
				chain, known := best[p.Key+q.Key]
				is(t, "chain", three(part.Chain(c, p.Key, q.Key)), list{fmt.Sprint(strings.Split(chain, "")), known, api.OK})
				if known && p != q {
					all = append(all, q.Key)
				}
				if len(chain) == 2 {
					direct = append(direct, q.Key)
				}
				if _, back := best[q.Key+p.Key]; back && known {
					group = append(group, q.Key)
				}
			}
			is(t, "direct", two(part.Direct(c, p.Key)), two(direct, api.OK))
			is(t, "all", two(part.All(c, p.Key)), two(all, api.OK))
			if len(group) > 1 && !strings.Contains(grouped, p.Key) {
				groups = append(groups, group)
				grouped += strings.Join(group, "")
			}
		}
		is(t, "groups", two(part.Groups(c)), two(groups, api.OK))
	}
}

// ring is the largest catalogue in which all parts replace one another only by way of all others.
func ring() api.Catalogue {
	c := large(api.MaxParts, 0)
	for i, p := range c.Parts {
		c.Alternates = append(c.Alternates, api.Alternate{For: p.Key, By: c.Parts[(i+1)%len(c.Parts)].Key})
	}
	return c
}

func TestLargest(t *testing.T) {
	c := ring()
	first, last := c.Parts[0].Key, c.Parts[len(c.Parts)-1].Key
	chain, found, e := part.Chain(c, first, last)
	is(t, "chain", list{len(chain), found, e}, list{api.MaxParts, true, api.OK})
	chain, found, e = part.Chain(c, last, first)
	is(t, "chain", list{chain, found, e}, list{[]string{last, first}, true, api.OK})
	all, e := part.All(c, last)
	is(t, "all", list{len(all), all[0], e}, list{api.MaxParts - 1, first, api.OK})
	groups, e := part.Groups(c)
	is(t, "groups", list{len(groups), len(groups[0]), e}, list{1, api.MaxParts, api.OK})
	c.Alternates = c.Alternates[:api.MaxParts-1]
	is(t, "no groups", two(part.Groups(c)), list{"[]", api.OK})
}
