package clock

import "aircheck/api"

// window is the true seconds from first to last, both inclusive; none if first is greater.
type window struct {
	first, last int
}

// narrow leaves out what is not from first to last.
func (w *window) narrow(first, last int) {
	w.first = max(w.first, first)
	w.last = min(w.last, last)
}

// showing returns the true seconds at which the valid clock may show the second local. With readings that contradict each other, there may be none.
func showing(c api.Clock, local int) window {
	w := window{last: api.MaxTime}
	bound(c, local, w.narrow)
	return w
}

// bound passes to narrow, for each reading of the valid clock, the first and the last true second at which the clock may show the second local, as far as this reading tells.
func bound(c api.Clock, local int, narrow func(first, last int)) {
	for _, r := range c.Readings {
		least, greatest := Spread(c.Drift, max(local-r.Local, r.Local-local))
		switch {
		case local > r.Local:
			narrow(r.Low+least, r.High+greatest)
		case local < r.Local:
			narrow(r.Low-greatest, r.High-least)
		default:
			// The clock may show the same second before the reading, too.
			narrow(r.Low-greatest, r.High+greatest)
		}
	}
}
