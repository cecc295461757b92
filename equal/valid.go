package equal

import "aircheck/api"

// leastCandidates is the least number of candidates: a single one has nobody to be equal to.
const leastCandidates = 2

// isAppearance reports whether the numbers of x are within bounds, for n candidates.
func isAppearance(n int, x api.Appearance) bool {
	return 0 <= x.Candidate && x.Candidate < n &&
		0 <= x.At && x.At <= api.MaxTime &&
		1 <= x.Seconds && x.Seconds <= api.MaxAppearance &&
		1 <= x.Weight && x.Weight <= api.MaxReach
}

// isNow reports whether the accounts can be asked for at the second now. Claims stay open behind the last appearance, so that it may be later than any of these.
func isNow(now int) bool {
	return 0 <= now && now <= 2*api.MaxTime
}
