package contract

import (
	"aircheck/api"
	"aircheck/week"
)

// isContract reports whether the numbers of c are within bounds.
func isContract(c api.Contract) bool {
	return isID(c.ID) &&
		0 <= c.Sponsor && c.Sponsor <= api.MaxSponsor &&
		0 <= c.Category && c.Category <= api.MaxCategory &&
		0 <= c.Item && c.Item < api.MaxItems &&
		1 <= c.Count && c.Count <= api.MaxCount &&
		1 <= c.PerDay && c.PerDay <= c.Count &&
		0 <= c.Gap && c.Gap <= api.MaxGap &&
		0 <= c.Price && c.Price <= api.MaxPrice &&
		week.Valid(c.Week) &&
		0 <= c.Window.From && c.Window.From < c.Window.To && c.Window.To <= api.MaxTime
}

// isSpot reports whether the numbers of x are within bounds.
func isSpot(x api.Spot) bool {
	return isID(x.Contract) && isSecond(x.At)
}

func isID(id int) bool {
	return 0 <= id && id <= api.MaxContractID
}

func isSecond(at int) bool {
	return 0 <= at && at < api.MaxTime
}
