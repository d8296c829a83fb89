package encoding

import (
	"domino/api"
	"domino/natural"
)

// Decode returns the item with the encoding s: the errors of Read, then ErrSyntax if s is longer than the encoding.
func Decode(s string) (api.Item, api.Errno) {
	i, n, err := Read(s)
	switch {
	case err != api.OK:
		return api.Item{}, err
	case n < len(s):
		return api.Item{}, api.ErrSyntax
	}
	return i, api.OK
}

// Read returns the item with whose encoding s begins, and the number of bytes of this encoding; ErrLong if s has more than MaxText bytes, then the first error from left to right, ErrSyntax or ErrDeep.
func Read(s string) (i api.Item, n int, err api.Errno) {
	if len(s) > api.MaxText {
		return api.Item{}, 0, api.ErrLong
	}
	defer func() {
		if e, ok := recover().(api.Errno); ok {
			i, n, err = api.Item{}, 0, e
		}
	}()
	r := reader{s: s}
	i = r.item(len(s), 0)
	return i, r.at, api.OK
}

// reader reads items from a string. Its methods panic with the error that they find.
type reader struct {
	s  string
	at int // how many bytes were read
}

// item reads an item that ends before end, inside so many lists.
func (r *reader) item(end, lists int) api.Item {
	i := api.Item{Kind: int(r.next(end))}
	switch {
	case i.Kind > api.ItemList:
		panic(api.ErrSyntax)
	case i.Kind == api.ItemList && lists == api.MaxDepth:
		panic(api.ErrDeep)
	}
	length := r.length(end)
	end = r.at + length
	switch i.Kind {
	case api.ItemNat:
		i.Nat = api.Nat(r.content(length))
		if !natural.Valid(i.Nat) {
			panic(api.ErrSyntax)
		}
	case api.ItemText:
		i.Text = r.content(length)
	case api.ItemList:
		for r.at < end {
			i.List = append(i.List, r.item(end, lists+1))
		}
	}
	return i
}

// length reads the length of a content that ends before end.
func (r *reader) length(end int) int {
	n := uint64(0)
	for k := range lengthBytes {
		b := r.next(end)
		n |= uint64(b%more) << (groupBits * k)
		if b >= more {
			continue
		}
		if b == 0 && k > 0 || n > uint64(end-r.at) {
			panic(api.ErrSyntax)
		}
		return int(n)
	}
	panic(api.ErrSyntax)
}

// next reads a byte before end.
func (r *reader) next(end int) byte {
	if r.at == end {
		panic(api.ErrSyntax)
	}
	r.at++
	return r.s[r.at-1]
}

// content reads so many bytes, which are there.
func (r *reader) content(length int) string {
	r.at += length
	return r.s[r.at-length : r.at]
}
