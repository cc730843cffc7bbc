import Derived.Test.YteolocchmhpggaaGreatDoorZKkSG
import Derived.Test.YteolocchmhpggaaGreatDoorZKkSM
namespace Go.Proofs.YteolocchmhpggaaGreatDoor
open Go.RowKit CrossMath

theorem sgn_cases {d : Int} (hd : d ≠ 0) : (d < 0 ∧ sgnZ d = -1) ∨ (0 < d ∧ sgnZ d = 1) := by
 unfold sgnZ
 rw [if_neg hd]
 split <;> omega
def OverPost (n d : Int) (X : Nat) (w : World) (e : Ending) (w' : World) : Prop := e = .returned (.tuple #[]) ∧ Row w' X (ratA (frN n d) (frD n d)).toList ∧ KB w.heap.size X w w'
theorem times_whole (n d s : Int) (hs : s = 1 ∨ s = -1) (hn : n.natAbs < T256) (hd : d.natAbs < T256) (h0 : 0 < d) (X : Nat) (w : World) (hX : Row w X (ratA n 1).toList) (ht : TabTz w) (hw0 : 0 < w.heap.size) :
 Calls Tryz.prog 150 #[.pointer (some ⟨X, 0, none⟩), .agg (ratA s d)] w fun e w' => e = .returned (.tuple #[]) ∧ Row w' X (ratA (n.tdiv (Int.gcd n d : Nat) * s) (d.tdiv (Int.gcd n d : Nat))).toList ∧ KB w.heap.size X w w' := by
 have hs1 : s.natAbs = 1 := by omega
 have hg0 : 0 < Int.gcd n d := Int.gcd_pos_of_ne_zero_right n (by omega)
 have hgd : Int.gcd n d ≤ d.natAbs := Nat.le_of_dvd (by omega) (Int.gcd_dvd_natAbs_right n d)
 have hgT : Int.gcd n d < T256 := Nat.lt_of_le_of_lt hgd hd
 have hT1 : 1 < T256 := by unfold T256; decide
 have hq1 : (n.tdiv (Int.gcd n d : Nat)).natAbs ≤ n.natAbs := by rw [Int.natAbs_tdiv]; exact Nat.div_le_self _ _
 have hq2 : (d.tdiv (Int.gcd n d : Nat)).natAbs ≤ d.natAbs := by rw [Int.natAbs_tdiv]; exact Nat.div_le_self _ _
 have hgs : Int.gcd s 1 = 1 := Int.gcd_one_right s
 have h := times_core (fun x y => (Int.gcd x y : Nat)) (fun x y => x.tdiv y) (fun x y => x * y)
  (fun x y => x.natAbs < T256 ∧ y.natAbs < T256) (fun x y => x.natAbs < T256 ∧ y.natAbs < T256 ∧ y ≠ 0) (fun x y => x.natAbs < T256 ∧ y.natAbs < T256 ∧ (x * y).natAbs < T256) n 1 s d X w
  (fun x y hxy W hb => gcd_num x y W hxy.1 hxy.2 (ht.below hw0 hb) (Nat.lt_of_lt_of_le hw0 hb.size))
  (fun x y W hxy => parts_num x y W hxy.1 hxy.2.1 hxy.2.2)
  (fun x y W b hxy hr => mul2_num x y b 2 W hxy.1 hxy.2.1 hxy.2.2 hr)
 simp only [hgs] at h
 rw [show s.tdiv ((1 : Nat) : Int) = s by simp, show (1 : Int).tdiv ((1 : Nat) : Int) = 1 by simp, Int.one_mul] at h
 refine h ⟨hn, hd⟩ ⟨by omega, hT1⟩ ⟨hn, by simpa using hgT, by omega⟩ ⟨by omega, hT1, by decide⟩ ⟨hT1, hT1, by decide⟩ ⟨hd, by simpa using hgT, by omega⟩ ⟨by omega, by omega, ?_⟩ ⟨hT1, by omega, by omega⟩ hX
 rw [Int.natAbs_mul, hs1, Nat.mul_one]
 omega
theorem over_whole (n d : Int) (hn : n.natAbs < T256) (hd : d.natAbs < T256) (h0 : d ≠ 0) (X : Nat) (w : World) (hX : Row w X (ratA n 1).toList) (ht : TabTz w) (hw0 : 0 < w.heap.size) :
 Calls Tryz.prog 139 #[.pointer (some ⟨X, 0, none⟩), .agg (ratA d 1)] w (OverPost n d X w) := by
 have hT1 : (1 : Int).natAbs < T256 := by unfold T256; decide
 rcases sgn_cases h0 with ⟨hneg, hs⟩ | ⟨hpos, hs⟩
 ·refine over_neg (fun x => -x) (fun x => x.natAbs < T256) d 1 (ratA (frN n d) (frD n d)).toList X w hX.lt (fun W => by
   have h := sign_num d W hd
   rw [hs] at h
   exact h) (fun x hx W => neg_num x W hx) hd hT1 (fun W hb => ?_)
  have h := times_whole n (-d) (-1) (.inr rfl) hn (by rw [Int.natAbs_neg]; exact hd) (by omega) X W (hX.below hb hX.lt) (ht.below hw0 hb) (Nat.lt_of_lt_of_le hw0 hb.size)
  rw [show n.tdiv (Int.gcd n (-d) : Nat) * -1 = frN n d by rw [frN, if_pos hneg, Int.gcd_neg], show (-d).tdiv (Int.gcd n (-d) : Nat) = frD n d by rw [frD, Int.gcd_neg, show ((d.natAbs : Nat) : Int) = -d by omega]] at h
  exact h
 ·refine over_pos d 1 (ratA (frN n d) (frD n d)).toList X w hX.lt (fun W => by
   have h := sign_num d W hd
   rw [hs] at h
   exact h) (fun W hb => ?_)
  have h := times_whole n d 1 (.inl rfl) hn hd hpos X W (hX.below hb hX.lt) (ht.below hw0 hb) (Nat.lt_of_lt_of_le hw0 hb.size)
  rw [show n.tdiv (Int.gcd n d : Nat) * 1 = frN n d by rw [frN, if_neg (by omega)], show d.tdiv (Int.gcd n d : Nat) = frD n d by rw [frD, show ((d.natAbs : Nat) : Int) = d by omega]] at h
  exact h
set_option maxRecDepth 100000 in
set_option maxHeartbeats 1600000 in
theorem after1_over (S X B : Nat) (n d : Int) (w : World) (hn : n.natAbs < T256) (hd : d.natAbs < T256) (h0 : d ≠ 0) (hS : Row w S [.func (.func 139) #[] #[]]) (hX : Row w X (ratA n 1).toList) (hB : Row w B (ratA d 1).toList) (ht : TabTz w) (hw0 : 0 < w.heap.size) :
 Calls Tryz.prog 149 #[.pointer (some ⟨S, 0, none⟩), .pointer (some ⟨X, 0, none⟩), .pointer (some ⟨B, 0, none⟩)] w (OverPost n d X w) := by
 have H := Lib.hid (over_whole n d hn hd h0 X w hX ht hw0)
 have s0 := hS.c 0 rfl
 clear hn hd h0 hS hX ht hw0
 go_enter Tryz.func149, Tryz.ntmps149
 go_wp2_with (first | (refine wpList_load_R rfl _ _ rfl _ rfl (ratA d 1) hB agg_rat ?_))
 refine (H.out).mono ?_
 rintro e w1 ⟨rfl, hr, hk⟩
 go_wp2_with fail
 exact bodyPost_end (results_none rfl _ _ _) rfl ⟨rfl, hr, hk⟩
set_option maxRecDepth 100000 in
set_option maxHeartbeats 1600000 in
theorem done1_over (P Q S X B : Nat) (n d : Int) (w : World) (hn : n.natAbs < T256) (hd : d.natAbs < T256) (h0 : d ≠ 0) (hP : Row w P [.func (.func 149) #[] #[.pointer (some ⟨S, 0, none⟩), .pointer (some ⟨X, 0, none⟩), .pointer (some ⟨B, 0, none⟩)]])
 (hQ : Row w Q [.pointer (some ⟨X, 0, none⟩)]) (hQX : Q ≠ X) (hS : Row w S [.func (.func 139) #[] #[]]) (hX : Row w X (ratA n 1).toList) (hB : Row w B (ratA d 1).toList) (ht : TabTz w) (hw0 : 0 < w.heap.size) :
 Calls Tryz.prog 161 #[.pointer (some ⟨P, 0, none⟩), .pointer (some ⟨Q, 0, none⟩)] w (GotPost X w (.val (ratA (frN n d) (frD n d)))) := by
 have H := Lib.hid (fun W hb => after1_over S X B n d W hn hd h0 (hS.after hb) (hX.after hb) (hB.after hb) (ht.below hw0 hb) (Nat.lt_of_lt_of_le hw0 hb.size))
 have p0 := hP.c 0 rfl
 have hlP := hP.lt
 have hlQ := hQ.lt
 have hlX := hX.lt
 clear hn hd h0 hS hX hB ht hw0 hP
 have hT : AggTy Tryz.prog 31 (ratA (frN n d) (frD n d)).size := agg_rat
 go_enter Tryz.func161, Tryz.ntmps161
 go_wp2_with fail
 have hb0 := (Below.refl w.heap.size w).alloc (Nat.le_refl _) (.cells zero_rat 31)
 have hZ := Row.at (w := w) rfl zero_rat.toList 31
 refine (H.out _ hb0).mono ?_
 rintro e w1 ⟨rfl, hr, hk⟩
 have hQ1 := (hQ.alloc (.cells zero_rat 31)).kb hk hQX
 replace hZ := hZ.kb hk (by omega)
 have hK := ((KB.refl w.heap.size X w).below hb0 (Nat.le_refl _)).trans hk hb0.size
 have q0 := hQ1.c 0 rfl
 clear hk hb0 hQ hQ1 H
 go_wp2_with (first | (refine wpList_load_R rfl _ _ rfl _ rfl (ratA (frN n d) (frD n d)) hr hT ?_) | (refine wpList_store_R rfl _ _ _ rfl _ (ratA (frN n d) (frD n d)) rfl rfl _ hZ rfl hT (ratA_one _ _) ?_; intro w2 r2 o2))
 exact bodyPost_ret (results_R1 (cs := ratA (frN n d) (frD n d)) rfl rfl r2 hT) rfl ⟨rfl, hK.on o2 (.inr (Nat.le_refl _))⟩
end Go.Proofs.YteolocchmhpggaaGreatDoor
