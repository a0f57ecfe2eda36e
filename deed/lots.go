package deed

import (
	"slices"

	"drowner/api"
)

// piece is a piece of a turn.
type piece struct {
	from, to  api.Ratio
	owner     string
	lent      string // to whom, up to the day until; nobody if empty
	until     int
	forfeited bool
}

// user returns who uses a piece on a day. What was lent up to an earlier day need not be taken off, as no day that is asked for lies ahead of a deed that counts.
func (p piece) user(day int) string {
	switch {
	case p.forfeited:
		return common
	case p.lent != "" && day <= p.until:
		return p.lent
	}
	return p.owner
}

// isMeant reports whether a deed is about a piece of its turn.
func (p piece) isMeant(d api.Deed) bool {
	return p.owner == d.From && p.forfeited == (d.Kind == api.DdRedeem)
}

// cut returns the pieces into which a piece is divided.
func (p piece) cut(among []api.Heir) lot {
	all := 0
	for _, h := range among {
		all += h.Share
	}
	var l lot
	gone := 0
	for _, h := range among {
		x := p
		x.owner = h.Name
		x.from = along(p.from, p.to, gone, all)
		gone += h.Share
		x.to = along(p.from, p.to, gone, all)
		l = append(l, x)
	}
	return l
}

// lot is a turn, as its pieces in their order; one without pieces is not founded. It is never changed.
type lot []piece

// after returns a turn as a deed leaves it; nothing if the deed is void.
func (t lot) after(d api.Deed) lot {
	does := map[int]func(api.Deed) lot{
		api.DdFound:   t.found,
		api.DdSell:    t.sell,
		api.DdDivide:  t.divide,
		api.DdLend:    t.lend,
		api.DdForfeit: t.forfeit,
		api.DdRedeem:  t.redeem,
	}
	return does[d.Kind](d)
}

func (t lot) found(d api.Deed) lot {
	if len(t) > 0 {
		return nil
	}
	return lot{{from: api.Ratio{Num: 0, Den: 1}, to: api.Ratio{Num: 1, Den: 1}, owner: d.To}}
}

func (t lot) sell(d api.Deed) lot {
	return t.with(d, func(p piece) lot {
		p.owner = d.To
		return lot{p}
	})
}

func (t lot) divide(d api.Deed) lot {
	divided := t.with(d, func(p piece) lot { return p.cut(d.Among) })
	if len(divided) > api.MaxParts || slices.ContainsFunc(divided, func(p piece) bool { return p.to.Den > api.MaxDen }) {
		return nil
	}
	return divided
}

func (t lot) lend(d api.Deed) lot {
	return t.with(d, func(p piece) lot {
		p.lent, p.until = d.To, d.Until
		return lot{p}
	})
}

func (t lot) forfeit(d api.Deed) lot {
	return t.with(d, func(p piece) lot {
		p.lent, p.until, p.forfeited = "", 0, true
		return lot{p}
	})
}

func (t lot) redeem(d api.Deed) lot {
	return t.with(d, func(p piece) lot {
		p.forfeited = false
		return lot{p}
	})
}

// with returns a turn with other pieces in place of those that a deed is about; nothing if there are none.
func (t lot) with(d api.Deed, other func(piece) lot) lot {
	var l lot
	void := true
	for _, p := range t {
		if !p.isMeant(d) {
			l = append(l, p)
			continue
		}
		void = false
		l = append(l, other(p)...)
	}
	if void {
		return nil
	}
	return l
}

// at returns the piece of a turn in which a point lies, alone.
func (t lot) at(point api.Ratio) lot {
	for _, p := range t {
		if less(point, p.to) {
			return lot{p}
		}
	}
	return nil
}

// parts returns the parts of a turn on a day.
func (t lot) parts(day int) []api.Part {
	var l []api.Part
	for _, p := range t {
		l = append(l, api.Part{From: p.from, To: p.to, Owner: p.owner, User: p.user(day), Forfeited: p.forfeited})
	}
	return joined(l)
}
