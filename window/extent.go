package window

import "cohesion/api"

// endless is a width at which no link expires: at no time is a link that old.
const endless = api.MaxTime + 1

// unlimited is a number of links that no state goes beyond.
const unlimited = api.MaxEdges

// extent is what a window of any kind comes to: how long a link is in it, and how many links are.
type extent struct{ width, most int }

// extentOf returns the extent of a window, or its first error.
func extentOf(w api.Window) (extent, api.Errno) {
	kinds := map[int]func(w api.Window) (extent, bool){
		api.WinAll:   allLinks,
		api.WinAge:   recentLinks,
		api.WinCount: lastLinks,
	}
	kind, exists := kinds[w.Kind]
	if !exists {
		return extent{}, api.ErrKind
	}
	x, isRight := kind(w)
	if !isRight {
		return extent{}, api.ErrRange
	}
	return x, api.OK
}

// allLinks returns the extent of a window with all links, and whether its numbers are right.
func allLinks(w api.Window) (extent, bool) {
	return extent{endless, unlimited}, w.Width == 0 && w.Most == 0
}

// recentLinks does so for a window by age.
func recentLinks(w api.Window) (extent, bool) {
	return extent{w.Width, unlimited}, 1 <= w.Width && w.Width <= api.MaxTime && w.Most == 0
}

// lastLinks does so for a window by number.
func lastLinks(w api.Window) (extent, bool) {
	return extent{endless, w.Most}, w.Width == 0 && 0 <= w.Most && w.Most <= api.MaxEdges
}

// checkTime returns the error of a time at which a valid state is looked at: no link is set later than that.
func checkTime(s api.State, time int) api.Errno {
	if time < 0 || time > api.MaxTime {
		return api.ErrTime
	}
	for _, link := range s.Links {
		if time < link.Time {
			return api.ErrTime
		}
	}
	return api.OK
}
