/- Contracts of slices' stable sort at arms of one quarter (at most 20): over the shelf's insertion sort. -/
import Derived.Test.YtfdofajknnocfaaNV
import Derived.Test.YtfdofajknnocfaaNU
import Derived.Test.YtfdofajknnocfaaNF
namespace Go.Proofs.Ytfdofajknnocfaa
open Go.RowKit Go.Sort

/-- The old blocks but one are as they were. -/
abbrev KeepN (w : World) (N : Nat) (w' : World) : Prop := w.grownBy w' (some N)
/-- An arm's cells. -/
def encA (p : Int × Int) : List Value := armL p.1 p.2 (quart p.1 p.2)
def cfA (p q : Int × Int) : Int := sideW p.1 p.2 q.1 q.2
set_option maxHeartbeats 400000 in
theorem side_g (x y q u v r : Int) (w : World) :
    Calls Try.prog 47 #[armV x y q, armV u v r] w fun e w' => e = .returned (.int .i64 (sideW x y u v)) ∧ w' = (w.alloc (.cells #[.int .i64 x, .int .i64 y, .int .i64 q] 50)).alloc (.cells #[.int .i64 u, .int .i64 v, .int .i64 r] 50) := by
  go_enter Try.func47, Try.ntmps47
  go_wp2_with fail
  refine (compare_int64 _ _ _).mono ?_
  rintro e w1 ⟨rfl, rfl⟩
  go_wp2
  go_ret
  exact ⟨rfl, rfl⟩
set_option maxHeartbeats 400000 in
theorem closure_side (x y q u v r : Int) (w : World) :
    Calls Try.prog 51 #[armV x y q, armV u v r] w fun e w' => e = .returned (.int .i64 (sideW x y u v)) ∧ ∃ n os, w' = grow (w.drewN n) os := by
  go_enter Try.func51, Try.ntmps51
  go_wp2_with fail
  refine (side_g _ _ _ _ _ _ _).mono ?_
  rintro e w1 ⟨rfl, rfl⟩
  go_wp2
  go_ret
  exact ⟨rfl, 0, _, by rw [alloc_eq_grow, alloc_eq_grow, alloc_eq_grow, alloc_eq_grow, grow_grow, grow_grow, grow_grow]; rfl⟩
theorem cmp_lays (blk off size : Nat) (w : World) : CmpLays Try.prog 51 #[] encA 3 cfA blk off size w :=
  fun _ _ _ _ x y => closure_side x.1 x.2 _ y.1 y.2 _ _
theorem keep_sorted (w : World) (blk m : Nat) (dk : Array (Int × Int)) (os : Array Obj) : KeepN w blk (sortWorldK encA 3 w blk 0 m dk os) := by
  refine ⟨rfl, rfl, rfl, size_sortWorldK_c _ _ _ _ _ _ _ _, fun k hk hn => ?_⟩
  unfold sortWorldK
  have hs : (putRowK encA 3 (Sort.ahead w m) blk 0 dk).heap.size = w.heap.size := by rw [size_putRowK]; rfl
  rw [heap_grow_old _ _ (by rw [hs]; exact hk)]
  unfold putRowK putRow mapBlock
  simp only [Array.getElem?_modify]
  rw [if_neg (fun e => hn (by rw [e]))]
  rfl
theorem insert_any (d : Array (Int × Int)) (blk cap a b : Nat) (w : World) (hH : HoldsK encA 3 w blk 0 d) (hblk : blk < w.heap.size) (hab : a ≤ b) (hb : b ≤ d.size) (hd : d.size ≤ 1000) :
    Calls Try.prog 62 #[.slice (some ⟨blk, 0, none⟩) d.size cap, .int .i64 a, .int .i64 b, .func (.func 51) #[] #[]] w fun e w' =>
      e = .returned (.tuple #[]) ∧ KeepN w blk w' ∧ ((Sort.insertionSort (ltOf cfA) d a b).size = d.size → HoldsK encA 3 w' blk 0 (Sort.insertionSort (ltOf cfA) d a b)) := by
  have h := AnyQ.insertionSortCmpFunc Try.laysIns 3 Try.isAgg50 Try.sizeOf50 encA (fun _ => rfl) (fun x v hv => by simp [encA] at hv; rcases hv with rfl | rfl | rfl <;> rfl) cfA 51 #[] blk 0 cap a b d w
    (fun _ _ => Try.call51 _ _) (cmp_lays _ _ _ _) hH hblk hab hb (by omega)
  refine Calls.mono h ?_
  rintro e w' ⟨he, n, os, rfl⟩
  exact ⟨he, keep_sorted _ _ _ _ _, fun hs => holdsK_sortWorldK_c _ _ _ _ _ d _ _ _ hH hblk hs⟩
theorem KeepN.trans {w w1 w2 : World} {N : Nat} (h : KeepN w N w1) (h' : KeepN w1 N w2) : KeepN w N w2 :=
  ⟨h'.os.trans h.os, h'.tape.trans h.tape, h'.output.trans h.output, Nat.le_trans h.size h'.size, fun k hk hn => (h'.block k (Nat.lt_of_lt_of_le hk h.size) hn).trans (h.block k hk hn)⟩
/-- Ways compared in one quarter: for all, an order that is the side where they may be. -/
theorem ins_size (lt : (Int × Int) → (Int × Int) → Bool) (j : Nat) (d : Array (Int × Int)) : (Sort.insInner lt 0 j d).size = d.size := by
  induction j generalizing d with
  | zero => rfl
  | succ j ih =>
    rw [Sort.insInner]
    split
    · rw [ih]; simp [Sort.swp]
    · rfl
theorem out_size (lt : (Int × Int) → (Int × Int) → Bool) (n : Nat) : ∀ (k i : Nat) (d : Array (Int × Int)), n - i = k → (Sort.insOuter lt 0 n i d).size = d.size
  | 0, i, d, hk => by rw [Sort.insOuter, if_neg (by omega)]
  | k + 1, i, d, hk => by
    rw [Sort.insOuter]
    split
    · rw [out_size lt n k (i + 1) _ (by omega), ins_size]
    · rfl
theorem sort_size (lt : (Int × Int) → (Int × Int) → Bool) (d : Array (Int × Int)) (n : Nat) : (Sort.insertionSort lt d 0 n).size = d.size := out_size lt n _ _ _ rfl
def StablePost (w : World) (blk : Nat) (d : Array (Int × Int)) (e : Ending) (w' : World) : Prop :=
  e = .returned (.tuple #[]) ∧ KeepN w blk w' ∧ HoldsK encA 3 w' blk 0 (Sort.insertionSort (ltOf cfA) d 0 d.size)
set_option maxHeartbeats 1600000 in
set_option maxRecDepth 100000 in
theorem stable_any (d : Array (Int × Int)) (blk cap : Nat) (w : World) (hH : HoldsK encA 3 w blk 0 d) (hblk : blk < w.heap.size) (hd : d.size ≤ 20) :
    Calls Try.prog 58 #[.slice (some ⟨blk, 0, none⟩) d.size cap, .int .i64 d.size, .func (.func 51) #[] #[]] w (StablePost w blk d) := by
  by_cases h20 : d.size = 20
  · have H1 := Lib.hid (insert_any d blk cap 0 20 w hH hblk (by omega) (by omega) (by omega))
    have hs := sort_size (ltOf cfA) d 20
    have H2 : Hid (∀ w1, KeepN w blk w1 → HoldsK encA 3 w1 blk 0 (Sort.insertionSort (ltOf cfA) d 0 20) → Calls Try.prog 62 #[.slice (some ⟨blk, 0, none⟩) d.size cap, .int .i64 20, .int .i64 20, .func (.func 51) #[] #[]] w1 fun e w' => e = .returned (.tuple #[]) ∧ StablePost w blk d (.returned (.tuple #[])) w') := Lib.hid (fun w1 hk hh => by
      have h := insert_any (Sort.insertionSort (ltOf cfA) d 0 20) blk cap 20 20 w1 hh (Nat.lt_of_lt_of_le hblk hk.size) (by omega) (by omega) (by omega)
      have e : Sort.insertionSort (ltOf cfA) (Sort.insertionSort (ltOf cfA) d 0 20) 20 20 = Sort.insertionSort (ltOf cfA) d 0 20 := by
        rw [Sort.insertionSort, Sort.insOuter, if_neg (by omega)]
      rw [e, hs] at h
      refine h.mono ?_
      rintro e w' ⟨he, hk', hh'⟩
      refine ⟨he, rfl, hk.trans hk', ?_⟩
      rw [h20]; exact hh' rfl)
    have H3 : Hid ((Sort.insertionSort (ltOf cfA) d 0 20).size = 20) := Lib.hid (hs.trans h20)
    clear hH hs
    generalize Sort.insertionSort (ltOf cfA) d 0 20 = r at H1 H2 H3
    rw [h20] at H1 H2 ⊢
    clear h20
    go_enter Try.func58, Try.ntmps58
    go_wp2
    refine wp_loop_rounds 2 ?_
    rw [rounds_succ]
    go_wp2_with fail
    refine H1.out.mono ?_
    rintro e w1 ⟨rfl, hk, hh⟩
    have hh := hh H3.out
    go_wp2_with fail
    rw [rounds_succ]
    go_wp2_with fail
    refine (H2.out w1 hk hh).mono ?_
    rintro e w2 ⟨rfl, hp⟩
    have HP := Lib.hid hp
    clear hp hk hh
    go_wp2
    refine wp_loop_rounds 1 ?_
    rw [rounds_succ]
    go_wp2_with fail
    refine bodyPost_ret (results_none rfl _ _ _) rfl ?_
    exact HP.out
  · have H1 : Hid (Calls Try.prog 62 #[.slice (some ⟨blk, 0, none⟩) d.size cap, .int .i64 0, .int .i64 d.size, .func (.func 51) #[] #[]] w fun e w' => e = .returned (.tuple #[]) ∧ StablePost w blk d (.returned (.tuple #[])) w') := Lib.hid (by
      have h := insert_any d blk cap 0 d.size w hH hblk (by omega) (Nat.le_refl _) (by omega)
      refine h.mono ?_
      rintro e w' ⟨he, hk, hh⟩
      exact ⟨he, rfl, hk, hh (sort_size _ _ _)⟩)
    have h19 : (d.size : Int) < 20 := by omega
    clear hH h20
    generalize d.size = n at H1 h19 hd ⊢
    go_enter Try.func58, Try.ntmps58
    go_wp2
    refine wp_loop_rounds 1 ?_
    rw [rounds_succ]
    go_wp2_with fail
    refine H1.out.mono ?_
    rintro e w2 ⟨rfl, hp⟩
    have HP := Lib.hid hp
    clear hp
    go_wp2
    refine wp_loop_rounds 1 ?_
    rw [rounds_succ]
    go_wp2_with fail
    refine bodyPost_ret (results_none rfl _ _ _) rfl ?_
    exact HP.out
set_option maxHeartbeats 1600000 in
set_option maxRecDepth 100000 in
theorem sorted_any (d : Array (Int × Int)) (blk cap : Nat) (w : World) (hH : HoldsK encA 3 w blk 0 d) (hblk : blk < w.heap.size) (hd : d.size ≤ 20) :
    Calls Try.prog 50 #[.slice (some ⟨blk, 0, none⟩) d.size cap, .func (.func 51) #[] #[]] w (StablePost w blk d) := by
  have H1 := Lib.hid (stable_any d blk cap w hH hblk hd)
  clear hH hblk
  generalize hn : d.size = n at *
  clear hn hd
  go_enter Try.func50, Try.ntmps50
  go_wp2_with fail
  refine H1.out.mono ?_
  rintro e w2 ⟨rfl, hp⟩
  have HP := Lib.hid hp
  clear hp
  go_wp2
  first | (refine bodyPost_ret (results_none rfl _ _ _) rfl ?_) | (go_end0)
  exact ⟨rfl, HP.out⟩
set_option maxHeartbeats 1600000 in
set_option maxRecDepth 100000 in
theorem insert_none (w : World) : Calls Try.prog 62 #[.slice none 0 0, .int .i64 0, .int .i64 0, .func (.func 51) #[] #[]] w fun e w' => e = .returned (.tuple #[]) ∧ w = w' := by
  go_enter Try.func62, Try.ntmps62
  go_wp2
  refine wp_loop_rounds 1 ?_
  rw [rounds_succ]
  go_wp2_with fail
  first | (refine bodyPost_ret (results_none rfl _ _ _) rfl ?_) | (go_end0)
  exact ⟨rfl, rfl⟩
set_option maxHeartbeats 1600000 in
set_option maxRecDepth 100000 in
theorem stable_none (w : World) : Calls Try.prog 58 #[.slice none 0 0, .int .i64 0, .func (.func 51) #[] #[]] w fun e w' => e = .returned (.tuple #[]) ∧ w = w' := by
  go_enter Try.func58, Try.ntmps58
  go_wp2
  refine wp_loop_rounds 1 ?_
  rw [rounds_succ]
  go_wp2_with fail
  refine (insert_none _).mono ?_
  rintro e w2 ⟨rfl, rfl⟩
  go_wp2
  refine wp_loop_rounds 1 ?_
  rw [rounds_succ]
  go_wp2_with fail
  first | (refine bodyPost_ret (results_none rfl _ _ _) rfl ?_) | (go_end0)
  exact ⟨rfl, rfl⟩
set_option maxHeartbeats 1600000 in
set_option maxRecDepth 100000 in
theorem sorted_none (w : World) : Calls Try.prog 50 #[.slice none 0 0, .func (.func 51) #[] #[]] w fun e w' => e = .returned (.tuple #[]) ∧ w = w' := by
  go_enter Try.func50, Try.ntmps50
  go_wp2_with fail
  refine (stable_none _).mono ?_
  rintro e w2 ⟨rfl, rfl⟩
  go_wp2
  first | (refine bodyPost_ret (results_none rfl _ _ _) rfl ?_) | (go_end0)
  exact ⟨rfl, rfl⟩
end Go.Proofs.Ytfdofajknnocfaa
