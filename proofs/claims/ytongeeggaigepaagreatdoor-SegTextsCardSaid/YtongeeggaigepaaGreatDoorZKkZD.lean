import Derived.Test.YtongeeggaigepaaGreatDoorZKkDD
import Derived.Test.YtongeeggaigepaaGreatDoorZKkBC
import Derived.Test.YtongeeggaigepaaGreatDoorZKkFC
import Derived.Test.YtongeeggaigepaaGreatDoorZKkUA
import Derived.Lib.IndexMore
namespace Go.Lib
theorem idx_one_none : ∀ (a : List UInt8) (c : UInt8), c ∉ a → index a [c] = -1
 | [], c, _ => rfl
 | b :: l, c, h => by
   have h1 : c ≠ b := fun e => h (by simp [e])
   have h2 : c ∉ l := fun e => h (List.mem_cons_of_mem _ e)
   have hp : List.isPrefixOf [c] (b :: l) = false := by simp [List.isPrefixOf, h1]
   unfold index
   rw [hp, idx_one_none l c h2]
   rfl
theorem idx_one_some : ∀ (a b : List UInt8) (c : UInt8), c ∉ a → index (a ++ c :: b) [c] = a.length
 | [], b, c, _ => by simp [index, List.isPrefixOf]
 | x :: l, b, c, h => by
   have h1 : c ≠ x := fun e => h (by simp [e])
   have h2 : c ∉ l := fun e => h (List.mem_cons_of_mem _ e)
   have hp : List.isPrefixOf [c] (x :: (l ++ c :: b)) = false := by simp [List.isPrefixOf, h1]
   show index (x :: (l ++ c :: b)) [c] = _
   unfold index
   rw [hp, idx_one_some l b c h2]
   have : (((l.length : Nat) : Int) == -1) = false := by rw [beq_eq_false_iff_ne]; omega
   simp [this]
theorem cut_none {a : List UInt8} {c : UInt8} (h : c ∉ a) : cut a [c] = (a, [], false) := by
 unfold cut
 rw [idx_one_none a c h, if_neg (by decide)]
theorem cut_some {a b : List UInt8} {c : UInt8} (h : c ∉ a) : cut (a ++ c :: b) [c] = (a, b, true) := by
 unfold cut
 rw [idx_one_some a b c h, if_pos (by omega)]
 simp
end Go.Lib
namespace Go.Proofs.YtongeeggaigepaaGreatDoor
open Go.RowKit Go.Sort
attribute [local go_sem] Oper.semAt_some
def tx (z : Int) : ByteArray := ⟨(textL z).toArray⟩
def ntx (x y : Int) : ByteArray := tx x ++ ⟨#[32]⟩ ++ tx y
def stx (ax ay bx bY : Int) : ByteArray := ntx ax ay ++ ⟨#[44]⟩ ++ ntx bx bY

def CutOk (w : World) : Prop := ∃ m, w.cell? ⟨0, 0, none⟩ = some (.int .i64 m)
theorem CutOk.below {w w1 : World} (h : CutOk w) (hb : Below w.heap.size w w1) : CutOk w1 := by
 obtain ⟨m, hm⟩ := h
 exact ⟨m, (hb.cell (p := ⟨0, 0, none⟩) (block_lt_of_cell hm)).trans hm⟩
theorem strcut_any (s sep a b : ByteArray) (f : Bool) (w : World) (hc : CutOk w) (hs : s.size < 4294967281) (h : Lib.cut s.data.toList sep.data.toList = (a.data.toList, b.data.toList, f)) :
 Calls Tryz.prog 105 #[.string s, .string sep] w fun e w' => e = .returned (.tuple #[.string a, .string b, .bool f]) ∧ Below w.heap.size w w' := by
 obtain ⟨m, hm⟩ := hc
 refine (Tryz.strings_Cut s sep m w hs hm).mono ?_
 rw [h]
 rintro e w' ⟨rfl, n, rfl⟩
 exact ⟨rfl, below_drewN (Below.refl _ _) n⟩
theorem tx_size {z : Int} (hz : z.natAbs < T256) : (tx z).size ≤ 79 := by
 have := textL_len hz
 simpa [tx, ByteArray.size] using this

def encD (p : Bool × ByteArray) : Array Value := #[.bool p.1, .string p.2]
set_option maxRecDepth 100000 in
set_option maxHeartbeats 2000000 in
theorem digits_u (n E : Nat) (s : ByteArray) (w : World) (hE : Row w E [.string s]) (hs : s.size < 4294967281) (hn : (47 : UInt8) ∉ s.data.toList) (hc : CutOk w) :
 SeqU Fence.wide (n + 1) Tryz.prog 222 #[.pointer (some ⟨E, 0, none⟩)] encD (fun _ => KeepsB E) [(false, s)] w := by
 intro l J Jx W hW hJ hJx hY h0
 have HC := Lib.hid (strcut_any s ⟨#[47]⟩ s ⟨#[]⟩ false W (hc.below hW) hs (Lib.cut_none hn))
 have HY := Lib.hid hY; clear hY
 have hR := hE.after hW
 clear hE hW
 have HJ := Lib.hid hJ
 have c0 := hR.c 0 rfl
 refine callsIn_of_wp Tryz.func222 rfl trivial ?_ rfl
 simp only [Tryz.ntmps222, List.size_toArray, List.length_cons, List.length_nil, Nat.reduceAdd, Nat.reduceSub, Array.replicate_succ, Array.replicate_zero, List.push_toArray, List.append_toArray, List.nil_append, List.cons_append]
 gi_wp2_with fail
 refine ⟨trivial, callsIn_wide.2 (HC.out.mono ?_)⟩
 rintro e W1 ⟨rfl, hb⟩
 have h1 := HJ.out _ _ _ h0 hb
 obtain ⟨fn, tmps, assign, body, hy, hr⟩ := HY.out [] (false, s) W1 h1 hb.size (by simp)
 have H1 := Lib.hid hr
 unfold encD at hy
 clear hr c0 hb HC
 gi_wp2_with fail
 refine H1.out.mono ?_
 rintro e W2 ⟨b, rfl, hk, hb⟩
 clear hy H1
 cases b with
 | false =>
   gi_wp2_with fail
   go_end0
   exact ⟨⟨_, rfl⟩, .inr ⟨[(false, s)], by simp, hb⟩⟩
 | true =>
   gi_wp2_with fail
   go_end0
   exact ⟨⟨_, rfl⟩, .inl hb⟩
set_option maxRecDepth 100000 in
set_option maxHeartbeats 800000 in
theorem digits_any2 (s : ByteArray) (w : World) : Calls Tryz.prog 209 #[.string s] w fun e w' => ∃ E, e = .returned (.func (.func 222) #[] #[.pointer (some ⟨E, 0, none⟩)]) ∧ w.heap.size ≤ E ∧ Row w' E [.string s] ∧ Below w.heap.size w w' := by
 have hmf : ∀ (fn : Fn) (first cap : Array Value) (w : World), (Instr.makeFunc fn first cap).run Tryz.prog w = .ok (.func fn first cap) w := fun _ _ _ _ => rfl
 go_enter Tryz.func209, Tryz.ntmps209
 go_wp2
 go_ret
 exact ⟨_, rfl, Nat.le_refl _, Row.at rfl _ _, (Below.refl _ _).alloc (Nat.le_refl _) _⟩
end Go.Proofs.YtongeeggaigepaaGreatDoor
