// Package function: the functions of requests, by their numbers.
package function

const (
	ReadCoils    = 1
	ReadSwitches = 2
	ReadHolders  = 3
	ReadInputs   = 4
	SetCoil      = 5
	SetHolder    = 6
	SetCoils     = 15
	SetHolders   = 16
	MaskHolder   = 22
	Exchange     = 23 // sets holders, then reads some
)
