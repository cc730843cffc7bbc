import Derived.Test.YteolocchmhpggaaGreatDoorZKkSK
import Derived.Test.YteolocchmhpggaaGreatDoorZKkSH
namespace Go.Proofs.YteolocchmhpggaaGreatDoor
open Go.RowKit CrossMath

theorem one_made (p : Array Value) (hp : p.size = 10) : Array.foldl (fun cs x => cs.setIfInBounds x.snd x.fst) #[.bool false, .int .u64 0, .int .u64 0, .int .u64 0, .int .u64 0, .bool false, .int .u64 0, .int .u64 0, .int .u64 0, .int .u64 0] p.zipIdx 0 10 = p := by
 obtain ⟨p0, p1, p2, p3, p4, p5, p6, p7, p8, p9, rfl⟩ := arr10 p hp
 kernel_rfl
theorem agg_fraction : AggTy Tryz.prog 210 10 := .of _ Tryz.underlying210 rfl (by kernel_rfl)
set_option maxRecDepth 100000 in
set_option maxHeartbeats 1600000 in
theorem done_over (S X B : Nat) (n d : Int) (w : World) (hn : n.natAbs < T256) (hd : d.natAbs < T256) (h0 : d ≠ 0)
 (hS : Row w S [.func (.func 139) #[] #[]]) (hX : Row w X (ratA n 1).toList) (hB : Row w B (ratA d 1).toList) (ht : TabTz w) (hw0 : 0 < w.heap.size) :
 Calls Tryz.prog 148 #[.pointer (some ⟨X, 0, none⟩), .func (.func 149) #[] #[.pointer (some ⟨S, 0, none⟩), .pointer (some ⟨X, 0, none⟩), .pointer (some ⟨B, 0, none⟩)]] w fun e w' => e = .returned (.tuple #[.agg (ratA (frN n d) (frD n d)), .int .i64 0]) ∧ KB w.heap.size X w w' := by
 have hmf : ∀ (fn : Fn) (first cap : Array Value) (w : World), (Instr.makeFunc fn first cap).run Tryz.prog w = .ok (.func fn first cap) w := fun _ _ _ _ => rfl
 have hlX := hX.lt
 have H := Lib.hid (fun W (hb : Below w.heap.size w W) P Q hP hQ hQX => done1_over P Q S X B n d W hn hd h0 hP hQ hQX (hS.below hb hS.lt) (hX.below hb hX.lt) (hB.below hb hB.lt) (ht.below hw0 hb) (Nat.lt_of_lt_of_le hw0 hb.size))
 clear hn hd h0 hS hX hB ht hw0
 have hT : AggTy Tryz.prog 31 (ratA (frN n d) (frD n d)).size := agg_rat
 have hone := ratA_one (frN n d) (frD n d)
 have HO := Lib.hid hone; clear hone
 generalize ratA (frN n d) (frD n d) = fr at *
 have hfr : Hid (fr.size = 10) := Lib.hid (by
  have h1 := hT.2
  rw [aggRat.2] at h1
  simpa using h1.symm)
 go_enter Tryz.func148, Tryz.ntmps148
 go_wp2_with fail
 have r2 := (((Row.at (w := w) rfl [.pointer (some ⟨X, 0, none⟩)] 200).alloc (.cells #[.func (.func 149) #[] #[.pointer (some ⟨S, 0, none⟩), .pointer (some ⟨X, 0, none⟩), .pointer (some ⟨B, 0, none⟩)]] 1)).alloc (.cells zero_rat 31))
 have r3 := ((Row.at (w := w.alloc (.cells #[.pointer (some ⟨X, 0, none⟩)] 200)) (n := w.heap.size + 1) (by simp) [.func (.func 149) #[] #[.pointer (some ⟨S, 0, none⟩), .pointer (some ⟨X, 0, none⟩), .pointer (some ⟨B, 0, none⟩)]] 1).alloc (.cells zero_rat 31))
 have r4 := (Row.at (w := (w.alloc (.cells #[.pointer (some ⟨X, 0, none⟩)] 200)).alloc (.cells #[.func (.func 149) #[] #[.pointer (some ⟨S, 0, none⟩), .pointer (some ⟨X, 0, none⟩), .pointer (some ⟨B, 0, none⟩)]] 1)) (n := w.heap.size + 1 + 1) (by simp) zero_rat.toList 31)
 have hb0 := (((Below.refl w.heap.size w).alloc (Nat.le_refl _) (.cells #[.pointer (some ⟨X, 0, none⟩)] 200)).alloc (by simp) (.cells #[.func (.func 149) #[] #[.pointer (some ⟨S, 0, none⟩), .pointer (some ⟨X, 0, none⟩), .pointer (some ⟨B, 0, none⟩)]] 1)).alloc (by simp; omega) (.cells zero_rat 31)
 refine (caught_rat 161 #[.pointer (some ⟨w.heap.size + 1, 0, none⟩), .pointer (some ⟨w.heap.size, 0, none⟩)] X (.val fr) _ (Nat.lt_of_lt_of_le hlX hb0.size) ⟨hfr.out, HO.out⟩ (fun _ _ => Tryz.call161 _ _)
  (fun W hW => H.out W (hb0.trans (hW.mono hb0.size)) (w.heap.size + 1) w.heap.size (r3.below hW r3.lt) (r2.below hW r2.lt) (by omega))).mono ?_
 rintro e w1 ⟨rfl, hk⟩
 have hK := ((KB.refl w.heap.size X w).below hb0 (Nat.le_refl _)).trans hk hb0.size
 replace r4 := r4.kb hk (by omega)
 clear r2 r3 hk hb0 H
 simp only [Got.ans]
 go_wp2_with (first | (refine wpList_store_R rfl _ _ _ rfl _ fr rfl rfl _ r4 (by rw [hfr.out]; rfl) hT HO.out ?_; intro w2 q2 o2))
 exact bodyPost_ret (results_R2 (cs := fr) rfl rfl q2 hT) rfl ⟨rfl, hK.on o2 (.inr (by omega))⟩
set_option maxRecDepth 100000 in
set_option maxHeartbeats 1600000 in
theorem after_over (n d : Int) (w : World) (hn : n.natAbs < T256) (hd : d.natAbs < T256) (h0 : d ≠ 0) (ht : TabTz w) (hw0 : 0 < w.heap.size) :
 Calls Tryz.prog 138 #[.agg (ratA n 1), .func (.func 139) #[] #[], .agg (ratA d 1)] w fun e w' => e = .returned (.tuple #[.agg (ratA (frN n d) (frD n d)), .int .i64 0]) ∧ Below w.heap.size w w' := by
 have hmf : ∀ (fn : Fn) (first cap : Array Value) (w : World), (Instr.makeFunc fn first cap).run Tryz.prog w = .ok (.func fn first cap) w := fun _ _ _ _ => rfl
 have hT1 : (1 : Int).natAbs < T256 := by unfold T256; decide
 have HC := Lib.hid (fun W (hb : Below w.heap.size w W) b hr => checkAll_two n 1 d 1 b 2 W hn hT1 (by decide) (Int.gcd_one_right n) hd hT1 (by decide) (Int.gcd_one_right d) (ht.below hw0 hb) (Nat.lt_of_lt_of_le hw0 hb.size) hr)
 have HD := Lib.hid (fun W (hb : Below w.heap.size w W) S X B hS hX hB => done_over S X B n d W hn hd h0 hS hX hB (ht.below hw0 hb) (Nat.lt_of_lt_of_le hw0 hb.size))
 clear hn hd h0 ht hw0 hT1
 have hT : AggTy Tryz.prog 31 (ratA (frN n d) (frD n d)).size := agg_rat
 have HO := Lib.hid (ratA_one (frN n d) (frD n d))
 have HO1 := Lib.hid (ratA_one n 1)
 have HT1 : Hid (AggTy Tryz.prog 31 (ratA n 1).size) := Lib.hid agg_rat
 have HT2 : Hid (AggTy Tryz.prog 31 (ratA d 1).size) := Lib.hid agg_rat
 have HTf : Hid (AggTy Tryz.prog 210 (ratA n 1).size) := Lib.hid agg_fraction
 have hs1 := ratA_size n 1
 have hs2 := ratA_size d 1
 have hfr0 := ratA_size (frN n d) (frD n d)
 generalize ratA (frN n d) (frD n d) = fr at *
 generalize ratA n 1 = an at *
 generalize ratA d 1 = ad at *
 have hz1 := two_size an hs1
 have hz2 := two_made an ad hs1 hs2
 have hz3 := one_made an hs1
 have hfr := Lib.hid hfr0
 clear hfr0
 go_enter Tryz.func138, Tryz.ntmps138
 have q3 := fun t1 o2 o3 o4 => (((Row.at (w := w) rfl an.toList t1).alloc o2).alloc o3).alloc o4
 have q5 := fun o1 o2 t o4 => (Row.at (w := (w.alloc o1).alloc o2) (n := w.heap.size + 1 + 1) (by simp) ad.toList t).alloc o4
 go_upto_region 1 with fail
 go_wp2_with (first | (refine wpList_load_R rfl _ _ rfl w.heap.size rfl an (q3 _ _ _ _) HT1.out ?_) | (refine wpList_load_R rfl _ _ rfl (w.heap.size + 1 + 1) rfl ad (q5 _ _ _ _) HT2.out ?_))
 clear q3 q5
 generalize hW : World.alloc _ _ = W0
 have r3 : Row W0 w.heap.size an.toList := by rw [← hW]; exact ((((Row.at rfl _ _).alloc _).alloc _).alloc _).alloc _
 have r4 : Row W0 (w.heap.size + 1) [.func (.func 139) #[] #[]] := by rw [← hW]; exact (((Row.at (by simp) _ _).alloc _).alloc _).alloc _
 have r5 : Row W0 (w.heap.size + 1 + 1) ad.toList := by rw [← hW]; exact ((Row.at (by simp) _ _).alloc _).alloc _
 have r6 : Row W0 (w.heap.size + 1 + 1 + 1) zero_rat.toList := by rw [← hW]; exact (Row.at (by simp) _ _).alloc _
 have r7 : Row W0 (w.heap.size + 1 + 1 + 1 + 1) (an ++ ad).toList := by rw [← hW]; exact Row.at (by simp) _ _
 have hB : Below w.heap.size w W0 := by rw [← hW]; exact (((((Below.refl w.heap.size w).alloc (Nat.le_refl _) _).alloc (by simp) _).alloc (by simp; omega) _).alloc (by simp; omega) _).alloc (by simp; omega) _
 clear hW
 refine (HC.out W0 hB _ r7).mono ?_
 rintro e w1 ⟨rfl, hb⟩
 replace r3 := r3.after hb
 replace r4 := r4.after hb
 replace r5 := r5.after hb
 replace r6 := r6.after hb
 replace hB := hB.trans (hb.mono hB.size)
 clear hb r7 HC
 go_wp2_with (first | (refine wpList_load_R rfl _ _ rfl w.heap.size rfl an r3 HT1.out ?_) | (refine wpList_store_R rfl _ _ _ rfl w1.heap.size an rfl rfl _ (Row.at rfl zero_rat.toList _) (by rw [hs1]; rfl) HTf.out HO1.out ?_; intro w2 rX oX))
 have n3 : w.heap.size ≠ w1.heap.size := Nat.ne_of_lt r3.lt
 have n4 : w.heap.size + 1 ≠ w1.heap.size := Nat.ne_of_lt r4.lt
 have n5 : w.heap.size + 1 + 1 ≠ w1.heap.size := Nat.ne_of_lt r5.lt
 have n6 : w.heap.size + 1 + 1 + 1 ≠ w1.heap.size := Nat.ne_of_lt r6.lt
 have hle : w.heap.size ≤ w1.heap.size := Nat.le_of_lt r3.lt
 replace r4 := oX.row n4 (r4.alloc _)
 replace r5 := oX.row n5 (r5.alloc _)
 replace r6 := oX.row n6 (r6.alloc _)
 replace hB := below_on (hB.alloc hB.size _) oX hB.size
 have hX := rX.lt
 refine (HD.out w2 hB (w.heap.size + 1) w1.heap.size (w.heap.size + 1 + 1) r4 rX r5).mono ?_
 rintro e w3 ⟨rfl, hk⟩
 replace r6 := r6.kb hk n6
 have hB3 : Below w.heap.size w w3 := hB.trans ((hk.toBelow (Nat.le_of_lt hX)).mono hle)
 clear hk HD r3 r4 r5 rX oX
 go_wp2_with (first | (refine wpList_store_R rfl _ _ _ rfl _ fr rfl rfl _ r6 (by rw [hfr.out]; rfl) hT HO.out ?_; intro w4 q4 o4))
 exact bodyPost_ret (results_R2 (cs := fr) rfl rfl q4 hT) rfl ⟨rfl, below_on hB3 o4 (by omega)⟩
end Go.Proofs.YteolocchmhpggaaGreatDoor
