package logic

import "netwright/api"

// The tables below have a row for the one bit and a column for the other, both in the order 0, 1, x, z.

var andTable = [4][4]api.Bit{
	{0, 0, 0, 0},
	{0, 1, 2, 2},
	{0, 2, 2, 2},
	{0, 2, 2, 2},
}

var orTable = [4][4]api.Bit{
	{0, 1, 2, 2},
	{1, 1, 1, 1},
	{2, 1, 2, 2},
	{2, 1, 2, 2},
}

var xorTable = [4][4]api.Bit{
	{0, 1, 2, 2},
	{1, 0, 2, 2},
	{2, 2, 2, 2},
	{2, 2, 2, 2},
}

var notTable = [4]api.Bit{1, 0, 2, 2}

var resolveTable = [4][4]api.Bit{
	{0, 2, 2, 0},
	{2, 1, 2, 1},
	{2, 2, 2, 2},
	{0, 1, 2, 3},
}

// letters are the bits as they are written, in the order 0, 1, x, z.
const letters = "01xz"
