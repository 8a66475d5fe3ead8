package mf

import (
	"slices"

	"cringle/api"
)

// What is copied shares no list with what it was copied of.

func copied(l []api.Item) []api.Item { return each(l, copiedItem) }

func copiedItem(i api.Item) api.Item {
	i.Types = slices.Clone(i.Types)
	i.Props = each(i.Props, copiedProp)
	i.Kids = copied(i.Kids)
	return i
}

func copiedProp(p api.Prop) api.Prop {
	p.Vals = copiedValues(p.Vals)
	return p
}

func copiedValues(l []api.Got) []api.Got { return each(l, copiedValue) }

func copiedValue(v api.Got) api.Got {
	v.Item = copied(v.Item)
	return v
}

// each is a list of what one by one is made of a list's.
func each[T any](l []T, one func(T) T) []T {
	if len(l) == 0 {
		return nil
	}
	all := make([]T, len(l))
	for i, x := range l {
		all[i] = one(x)
	}
	return all
}
