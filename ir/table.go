package ir

import "interlock/api"

// word is what one of an instruction's numbers is.
type word uint8

const (
	none word = iota // the table has no word for it
	sets
	uses
	number
	place
	thread
	variable
	atom
	lock
	channel
	group
	once
	words // how many there are
)

// row is what an instruction is: what A, B and C are, in this order, and how it is in order with what others do.
type row struct {
	name    string
	abc     [3]word
	plain   bool
	acquire bool
	release bool
}

// table is the chapter's table, by Op.
func table() [api.Ops]row {
	return [api.Ops]row{
		api.Nop:     {name: "nop", plain: true},
		api.Const:   {name: "const", abc: [3]word{sets, number}, plain: true},
		api.Move:    {name: "move", abc: [3]word{sets, uses}, plain: true},
		api.Add:     {name: "add", abc: [3]word{sets, uses, uses}, plain: true},
		api.Sub:     {name: "sub", abc: [3]word{sets, uses, uses}, plain: true},
		api.Mul:     {name: "mul", abc: [3]word{sets, uses, uses}, plain: true},
		api.Less:    {name: "less", abc: [3]word{sets, uses, uses}, plain: true},
		api.Load:    {name: "load", abc: [3]word{sets, variable}, plain: true},
		api.Store:   {name: "store", abc: [3]word{variable, uses}, plain: true},
		api.Print:   {name: "print", abc: [3]word{uses}},
		api.Jump:    {name: "jump", abc: [3]word{place}},
		api.Zero:    {name: "zero", abc: [3]word{uses, place}},
		api.Go:      {name: "go", abc: [3]word{thread}, release: true},
		api.Lock:    {name: "lock", abc: [3]word{lock}, acquire: true},
		api.Unlock:  {name: "unlock", abc: [3]word{lock}, release: true},
		api.RLock:   {name: "rlock", abc: [3]word{lock}, acquire: true},
		api.RUnlock: {name: "runlock", abc: [3]word{lock}, release: true},
		api.Read:    {name: "read", abc: [3]word{sets, atom}, acquire: true},
		api.Write:   {name: "write", abc: [3]word{atom, uses}, release: true},
		api.Bump:    {name: "bump", abc: [3]word{sets, atom, uses}, acquire: true, release: true},
		api.Send:    {name: "send", abc: [3]word{channel, uses}, acquire: true, release: true},
		api.Recv:    {name: "recv", abc: [3]word{sets, channel}, acquire: true, release: true},
		api.Poll:    {name: "poll", abc: [3]word{sets, channel, sets}, acquire: true, release: true},
		api.Close:   {name: "close", abc: [3]word{channel}, release: true},
		api.Grow:    {name: "grow", abc: [3]word{group, number}, release: true},
		api.Wait:    {name: "wait", abc: [3]word{group}, acquire: true},
		api.Begin:   {name: "begin", abc: [3]word{sets, once}, acquire: true},
		api.End:     {name: "end", abc: [3]word{once}, release: true},
	}
}

// of is an instruction's row; what the table does not have is a row of nothing, for the calls to answer by.
func of(op uint8) row {
	if op >= api.Ops {
		return row{}
	}
	return table()[op]
}
