namespace CrossMath
structure Sg where
 ax : Int
 ay : Int
 bx : Int
 bY : Int
deriving DecidableEq
structure Pt where
 xn : Int
 xd : Int
 yn : Int
 yd : Int
deriving DecidableEq
def flipS (s : Sg) : Sg := ⟨s.bx, s.bY, s.ax, s.ay⟩
def turned (s : Sg) : Bool := decide (s.bx - s.ax < 0) || (decide (s.bx - s.ax = 0) && decide (s.bY - s.ay < 0))
def laidS (s : Sg) : Sg := if turned s = true then flipS s else s
def frN (n d : Int) : Int := (n.tdiv (Int.gcd n d : Nat)) * (if d < 0 then -1 else 1)
def frD (n d : Int) : Int := ((d.natAbs : Int)).tdiv (Int.gcd n d : Nat)
def dotP (x y : Int) : Pt := ⟨x, 1, y, 1⟩
theorem frN_neg (n d : Int) (hd : d ≠ 0) : frN (-n) (-d) = frN n d := by
 unfold frN
 rw [Int.gcd_neg, Int.neg_gcd, Int.neg_tdiv]
 by_cases h : d < 0
 ·rw [if_pos h, if_neg (by omega)]; omega
 ·rw [if_neg h, if_pos (by omega)]; omega
theorem frD_neg (n d : Int) : frD (-n) (-d) = frD n d := by
 unfold frD
 rw [Int.gcd_neg, Int.neg_gcd, Int.natAbs_neg]
end CrossMath

namespace CrossMath
end CrossMath
namespace CrossMath
end CrossMath
namespace CrossMath
end CrossMath

namespace CrossMath
def cmp3 (a b : Int) : Int := if a < b then -1 else if b < a then 1 else 0
def cmpPt (p : Pt) (x y : Int) : Int := if p.xn = x * p.xd then cmp3 p.yn (y * p.yd) else cmp3 p.xn (x * p.xd)
def valS (s : Sg) (p : Pt) : Int := (s.bx - s.ax) * (p.yn - s.ay * p.yd) * p.xd - (s.bY - s.ay) * (p.xn - s.ax * p.xd) * p.yd
def onB (s : Sg) (p : Pt) : Bool := decide (valS s p = 0) && decide (cmpPt p s.ax s.ay ≠ cmpPt p s.bx s.bY)
end CrossMath

namespace CrossMath
end CrossMath
