package levy

import (
	"slices"

	"drowner/api"
)

// checkDues returns the error of a tree, then those of payments and of a day.
func checkDues(t api.Tree, l []api.Due, day int) api.Errno {
	if e := Check(t); e != api.OK {
		return e
	}
	if len(l) > api.MaxDues {
		return api.ErrLimit
	}
	all := tree(t).others(nil)
	isWrong := func(x api.Due) bool {
		return !all[x.ID] || !isFrom(0, api.MaxDay, x.Day) || !isFrom(1, maxPence, x.Pence)
	}
	if slices.ContainsFunc(l, isWrong) || !isFrom(0, api.MaxDay, day) {
		return api.ErrArg
	}
	return api.OK
}

// Arrears returns what each user owes behind a day.
func Arrears(t api.Tree, l []api.Due, day int) ([]int, api.Errno) {
	if e := checkDues(t, l, day); e != api.OK {
		return nil, e
	}
	owed := tree(t).fairPence()
	for i, p := range t.Payers {
		owed[i] -= paid(l, day, group{p.ID: true})
	}
	return owed, api.OK
}

// Purse returns what is in the common purse behind a day.
func Purse(t api.Tree, l []api.Due, day int) (int, api.Errno) {
	if e := checkDues(t, l, day); e != api.OK {
		return 0, e
	}
	return paid(l, day, tree(t).others(nil)), api.OK
}

// paid returns what a group has paid on days up to one.
func paid(l []api.Due, day int, g group) int {
	return sum(l, func(x api.Due) int {
		if !g[x.ID] || x.Day > day {
			return 0
		}
		return x.Pence
	})
}
