package format

import "aircheck/api"

// noJoin is the Join of a slot that begins whenever the one before it ends.
const noJoin = -1

// visit goes through the parts of a clock, in a region and an hour of the day, and calls a function for each slot, whose Join is left open, and for each join that it meets.
type visit struct {
	region, hour int
	slot         func(s api.Slot)
	join         func(second int)
}

// through goes through l, which is the whole of some valid parts.
func (v visit) through(l []api.Part) {
	for p, inside := range outermost(l) {
		k, _ := kindOf(p)
		k.meet(v, p, inside)
	}
}

func meetSlot(v visit, p api.Part, _ []api.Part) {
	v.slot(api.Slot{Kind: p.A, Least: p.B, Most: p.C})
}

func meetJoin(v visit, p api.Part, _ []api.Part) {
	v.join(p.A)
}

func meetRepeat(v visit, p api.Part, inside []api.Part) {
	for range p.A {
		v.through(inside)
	}
}

func meetWhere(v visit, p api.Part, inside []api.Part) {
	if has(p.A, v.region) && has(p.B, v.hour) {
		v.through(inside)
	}
}

// slotsOf returns the slots of the valid clock l in a region, in an hour of the day; MaxSlots + 1 of them if there are more.
func slotsOf(l []api.Part, region, hour int) []api.Slot {
	var out []api.Slot
	join := noJoin
	v := visit{
		region: region,
		hour:   hour,
		slot: func(s api.Slot) {
			s.Join, join = join, noJoin
			if len(out) <= api.MaxSlots {
				out = append(out, s)
			}
		},
		join: func(second int) { join = second },
	}
	v.through(l)
	return out
}

// areSlots reports whether l is a valid list of slots.
func areSlots(l []api.Slot) bool {
	if len(l) < 1 || len(l) > api.MaxSlots {
		return false
	}
	for _, s := range l {
		if !isItemKind(s.Kind) || !areLengths(s.Least, s.Most) || s.Join != noJoin && !isSecond(s.Join) {
			return false
		}
	}
	return true
}

// beginsOf returns, for each slot of l, the least and the greatest second at which it can begin, whatever comes after it, and at last the end of the hour. It returns only what is before the first slot that cannot begin at its Join, or before an end that cannot be met; so it has one more than l exactly if l has a filling.
func beginsOf(l []api.Slot) [][2]int {
	var out [][2]int
	least, most := 0, 0
	for _, s := range l {
		if s.Join != noJoin {
			if s.Join < least || s.Join > most {
				return out
			}
			least, most = s.Join, s.Join
		}
		out = append(out, [2]int{least, most})
		least, most = least+s.Least, most+s.Most
	}
	if least <= api.HourSeconds && api.HourSeconds <= most {
		out = append(out, [2]int{api.HourSeconds, api.HourSeconds})
	}
	return out
}

// wrongSlot returns which of the slots that slotsOf returned is the cause that they cannot be kept, and whether there is one: MaxSlots if there are too many, and their number if they do not end with the hour.
func wrongSlot(l []api.Slot) (int, bool) {
	if len(l) > api.MaxSlots {
		return api.MaxSlots, true
	}
	index := len(beginsOf(l))
	return index, index <= len(l)
}
