package change

import (
	"strings"

	"counterfoil/api"
	"counterfoil/number"
	"counterfoil/record"
)

// Put: the bytes of a changeset.
func Put(l []api.Change) (string, api.Errno) {
	if e := Check(l); e != api.OK {
		return "", e
	}
	var b strings.Builder
	b.WriteString(number.Put(uint64(len(l))))
	for _, c := range l {
		table, _ := record.Put([]api.Value{{Kind: api.KText, S: c.Table}})
		old, _ := record.Put(c.Old)
		new, _ := record.Put(c.New)
		for _, s := range []string{table, putKey(c.Key), old, new} {
			b.WriteString(number.Put(uint64(len(s))) + s)
		}
	}
	return b.String(), api.OK
}

// putKey: the record of a key. It may be longer than that of a row, so that it is put together of those of its values.
func putKey(key []api.Value) string {
	var tags, bodies strings.Builder
	tags.WriteByte(byte(len(key)))
	for _, v := range key {
		s, _ := record.Put([]api.Value{v})
		_, size, _ := number.Take(s[1:])
		tags.WriteString(s[1 : 1+size])
		bodies.WriteString(s[1+size:])
	}
	return tags.String() + bodies.String()
}

// Take: the changeset whose bytes s is.
func Take(s string) ([]api.Change, api.Errno) {
	r := reader{s, true}
	count := r.number()
	var list []api.Change
	for i := uint64(0); i < count && r.well; i++ {
		list = append(list, r.change())
	}
	if !r.well || r.left != "" || Check(list) != api.OK {
		return nil, api.ErrBytes
	}
	return list, api.OK
}

// reader takes what is left; where that says nothing, it is not well.
type reader struct {
	left string
	well bool
}

// number: the number whose short form comes next.
func (r *reader) number() uint64 {
	n, size, e := number.Take(r.left)
	r.well = r.well && e == api.OK
	r.left = r.left[size:]
	return n
}

// text: the next n bytes.
func (r *reader) text(n uint64) string {
	if n > uint64(len(r.left)) {
		r.well = false
		return ""
	}
	s := r.left[:n]
	r.left = r.left[n:]
	return s
}

// change: the next change.
func (r *reader) change() (c api.Change) {
	row := func() []api.Value {
		l, e := record.Take(r.text(r.number()))
		r.well = r.well && e == api.OK
		if len(l) == 0 {
			return nil
		}
		return l
	}
	table := row()
	if len(table) == 1 && table[0].Kind == api.KText {
		c.Table = table[0].S
	}
	key := reader{r.text(r.number()), r.well}
	c.Key = key.values()
	c.Old, c.New = row(), row()
	r.well = r.well && key.well && c.Table != ""
	return c
}

// values: all that is left, as the record of a key.
func (r *reader) values() []api.Value {
	count := r.text(1)
	if !r.well || count[0] > api.MaxColumns {
		r.well = false
		return nil
	}
	tags := make([]uint64, count[0])
	for i := range tags {
		tags[i] = r.number()
	}
	var key []api.Value
	for _, tag := range tags {
		key = append(key, r.value(tag))
	}
	r.well = r.well && r.left == ""
	return key
}

// value: the next value, which has that tag.
func (r *reader) value(tag uint64) api.Value {
	s := "\x01" + number.Put(tag)
	switch tag {
	case 0:
	case 1:
		s += number.Put(r.number())
	default:
		s += r.text(tag/2 - 1)
	}
	row, e := record.Take(s)
	if e != api.OK {
		r.well = false
		return api.Value{}
	}
	return row[0]
}
