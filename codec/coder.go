package codec

import (
	"erratum/api"
	"erratum/cbor"
	"erratum/json"
	"erratum/pack"
)

// coder is a format: how its bytes are read, and how they are written.
type coder interface {
	decode(b string) (api.Tree, api.Errno)
	encode(t api.Tree) (string, api.Errno)
}

// coderOf is the format of a number.
func coderOf(format int) coder {
	switch format {
	case api.JSON:
		return asJSON{}
	case api.CBOR:
		return asCBOR{}
	case api.Pack:
		return asPack{}
	}
	return asNone{}
}

type asJSON struct{}

func (asJSON) decode(b string) (api.Tree, api.Errno) { return json.Decode(b) }

func (asJSON) encode(t api.Tree) (string, api.Errno) { return json.Encode(t) }

type asCBOR struct{}

func (asCBOR) decode(b string) (api.Tree, api.Errno) { return cbor.Decode([]byte(b)) }

func (asCBOR) encode(t api.Tree) (string, api.Errno) {
	b, e := cbor.Encode(t)
	return string(b), e
}

type asPack struct{}

func (asPack) decode(b string) (api.Tree, api.Errno) { return pack.Decode([]byte(b)) }

func (asPack) encode(t api.Tree) (string, api.Errno) {
	b, e := pack.Encode(t)
	return string(b), e
}

// asNone is what a number is that is no format's: it has no bytes and no values, so that nobody need ask whether there is one.
type asNone struct{}

func (asNone) decode(string) (api.Tree, api.Errno) { return api.Tree{}, api.Arg }

func (asNone) encode(api.Tree) (string, api.Errno) { return "", api.Arg }
