package eval

import (
	"slices"

	"counterfoil/api"
	"counterfoil/value"
)

// group: what COUNT, SUM, MIN, MAX come to.
func (s scope) group(x api.Expr) (api.Value, api.Errno) {
	if len(x.Kids) == 0 {
		return integer(int64(len(s.rows))), api.OK
	}
	var list []api.Value
	for _, row := range s.rows {
		v, e := of(row).come(x.Kids[0])
		if e != api.OK {
			return api.Value{}, e
		}
		if !null(v) {
			list = append(list, v)
		}
	}
	switch {
	case x.Op == api.ExCount:
		return integer(int64(len(list))), api.OK
	case len(list) == 0:
		return api.Value{}, api.OK
	case x.Op == api.ExMin:
		return slices.MinFunc(list, value.Compare), api.OK
	case x.Op == api.ExMax:
		return slices.MaxFunc(list, value.Compare), api.OK
	}
	return total(list)
}

// total: the sum of all these, however great it was on the way.
func total(list []api.Value) (api.Value, api.Errno) {
	var sum wide
	for _, v := range list {
		if !only(api.KInt, v.Kind) {
			return api.Value{}, api.ErrType
		}
		sum = sum.plus(widened(v.N))
	}
	return sum.value()
}
