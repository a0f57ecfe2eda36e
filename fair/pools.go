package fair

import (
	"slices"

	"drowner/api"
)

func hasTenant(p api.Pool, tenant int) bool {
	return slices.ContainsFunc(p.Tenants, func(t api.Tenant) bool { return t.ID == tenant })
}

func hasSlot(p api.Pool, slot int) bool {
	return slices.ContainsFunc(p.Slots, func(x api.Slot) bool { return x.ID == slot })
}

func canUse(p api.Pool, slot, tenant int) bool {
	return slices.ContainsFunc(p.Slots, func(x api.Slot) bool { return x.ID == slot && slices.Contains(x.Users, tenant) })
}

// usedBy returns a pool, in new memory, in which tenants use slots only where a function says that they still can.
func usedBy(p api.Pool, can func(slot, tenant int) bool) api.Pool {
	q := api.Pool{Tenants: slices.Clone(p.Tenants), Slots: slices.Clone(p.Slots)}
	for i, x := range q.Slots {
		q.Slots[i].Users = slices.DeleteFunc(slices.Clone(x.Users), func(id int) bool { return !can(x.ID, id) })
	}
	return q
}

// copied returns a pool in new memory.
func copied(p api.Pool) api.Pool {
	return usedBy(p, func(_, _ int) bool { return true })
}

// without returns a pool, in new memory, without the slots of which a function says so.
func without(p api.Pool, is func(slot int) bool) api.Pool {
	q := copied(p)
	q.Slots = slices.DeleteFunc(q.Slots, func(x api.Slot) bool { return is(x.ID) })
	return q
}

// Without returns a pool without some slots.
func Without(p api.Pool, slots []int) (api.Pool, api.Errno) {
	if e := Check(p); e != api.OK {
		return api.Pool{}, e
	}
	return without(p, func(slot int) bool { return slices.Contains(slots, slot) }), api.OK
}

// Absent returns a pool without a tenant.
func Absent(p api.Pool, tenant int) (api.Pool, api.Errno) {
	if e := Check(p); e != api.OK {
		return api.Pool{}, e
	}
	if !hasTenant(p, tenant) {
		return api.Pool{}, api.ErrNone
	}
	q := usedBy(p, func(_, id int) bool { return id != tenant })
	q.Tenants = slices.DeleteFunc(q.Tenants, func(t api.Tenant) bool { return t.ID == tenant })
	return q, api.OK
}
