package debt

import "aircheck/api"

// isDebt reports whether the numbers of d are within bounds.
func isDebt(d api.Debt) bool {
	return isID(d.ID) && isContract(d.Contract) && isCount(d.Count) && 0 <= d.Due && d.Due <= api.MaxTime
}

// isOpening reports whether the numbers of o are within bounds.
func isOpening(o api.Opening) bool {
	return isSecond(o.At) && 1 <= o.Count && o.Count <= api.MaxRoom
}

// isID reports whether a debt may have this ID.
func isID(id int) bool {
	return 0 <= id && id <= api.MaxDebt
}

// isContract reports whether a contract may have this ID.
func isContract(id int) bool {
	return 0 <= id && id <= api.MaxContractID
}

func isCount(count int) bool {
	return 1 <= count && count <= api.MaxCount
}

func isSecond(at int) bool {
	return 0 <= at && at < api.MaxTime
}

// isDeadline reports whether something that is owed since the second at may be due at the second due.
func isDeadline(due, at int) bool {
	return at < due && due <= api.MaxTime
}
