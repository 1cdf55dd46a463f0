package links

import (
	"cmp"
	"slices"

	"cohesion/api"
	"cohesion/event"
)

// checkLink returns the first error that a link of a state has by itself.
func checkLink(nodes int, link api.Link) api.Errno {
	if link.U < 0 || link.U >= link.V || link.V >= nodes {
		return api.ErrNode
	}
	// A link is as right as the event that sets it; but event.Check looks at the time first, which comes last here.
	asSet := setOf(link)
	withoutTime := asSet
	withoutTime.Time = 0
	return cmp.Or(event.Check(withoutTime), event.Check(asSet))
}

// checkEvent returns the first error of an event of a state with so many nodes.
func checkEvent(nodes int, e api.Event) api.Errno {
	if err := event.Check(e); err != api.OK {
		return err
	}
	if e.U >= nodes || e.V >= nodes {
		return api.ErrNode
	}
	return api.OK
}

// linkBetween returns the link between two nodes, in any order, without attributes.
func linkBetween(u, v int) api.Link {
	return api.Link{U: min(u, v), V: max(u, v)}
}

// linkOf returns the link that an event sets.
func linkOf(e api.Event) api.Link {
	link := linkBetween(e.U, e.V)
	link.Weight, link.Label, link.Sign, link.Time = e.Weight, e.Label, e.Sign, e.Time
	return link
}

// setOf returns the event that sets a link.
func setOf(link api.Link) api.Event {
	return api.Event{Kind: api.EvSet, Time: link.Time, U: link.U, V: link.V, Weight: link.Weight, Label: link.Label, Sign: link.Sign}
}

// compareEdges tells which of two links comes first in a state; their attributes do not matter.
func compareEdges(a, b api.Link) int {
	return cmp.Or(cmp.Compare(a.U, b.U), cmp.Compare(a.V, b.V))
}

// locate returns where the link with the edge of the one that is asked for stands among links, or would stand, and whether it is
// there.
func locate(links []api.Link, asked api.Link) (int, bool) {
	return slices.BinarySearchFunc(links, asked, compareEdges)
}

// present is the links of a valid state, in memory of their own: what happens to them changes no argument.
type present struct{ links []api.Link }

// apply lets an event happen that has no error, and returns what changed, as events.
func (p *present) apply(e api.Event) []api.Event {
	switch e.Kind {
	case api.EvSet:
		return p.set(linkOf(e))
	case api.EvCut:
		return p.cut(e)
	}
	return p.leave(e)
}

func (p *present) set(link api.Link) []api.Event {
	at, found := locate(p.links, link)
	switch {
	case !found:
		p.links = slices.Insert(p.links, at, link)
	case p.links[at] == link:
		return nil
	default:
		p.links[at] = link
	}
	return []api.Event{setOf(link)}
}

func (p *present) cut(e api.Event) []api.Event {
	at, found := locate(p.links, linkOf(e))
	if !found {
		return nil
	}
	return []api.Event{p.remove(at, e.Time)}
}

func (p *present) leave(e api.Event) []api.Event {
	var cuts []api.Event
	for at := 0; at < len(p.links); {
		if p.links[at].U != e.U && p.links[at].V != e.U {
			at++
			continue
		}
		// The link behind the one that is removed comes into its place, and is looked at next.
		cuts = append(cuts, p.remove(at, e.Time))
	}
	return cuts
}

// remove takes a link out, and returns the event that it is cut at a time.
func (p *present) remove(at, time int) api.Event {
	link := p.links[at]
	kept := copy(p.links[at:], p.links[at+1:])
	p.links = p.links[:at+kept]
	return api.Event{Kind: api.EvCut, Time: time, U: link.U, V: link.V}
}
