import Derived.Test.YtongeeggaigepaaGreatDoorZKkUM
import Derived.Test.YtongeeggaigepaaGreatDoorZKkBase
import Derived.TacticsInMore
import Derived.RangeFuncBound
import Derived.RangeFuncCalls
namespace Go.Proofs.YtongeeggaigepaaGreatDoor
open Go.RowKit
attribute [local go_sem] Oper.semAt_some
def encN (p : Int × Int) : Array Value := #[.agg #[.int .i64 p.1, .int .i64 p.2]]
set_option maxRecDepth 100000 in
set_option maxHeartbeats 2000000 in
theorem ends_u (n E : Nat) (ax ay bx bY : Int) (w : World) (hE : Row w E [.int .i64 ax, .int .i64 ay, .int .i64 bx, .int .i64 bY]) :
 SeqU Fence.wide (n + 1) Tryz.prog 76 #[.pointer (some ⟨E, 0, none⟩)] encN (fun _ => KeepsB E) [(ax, ay), (bx, bY)] w := by
 intro l J Jx W hW hJ hJx hY h0
 have HY := Lib.hid hY; clear hY
 have hR := hE.after hW
 clear hE hW
 have HR := Lib.hid hR
 have c0 := hR.c 0 rfl
 have c1 := hR.c 1 rfl
 have lE := hR.lt
 obtain ⟨fn, tmps, assign, body, hy, hr⟩ := HY.out [] (ax, ay) W h0 (Nat.le_refl _) (by simp)
 have H1 := Lib.hid hr
 unfold encN at hy
 clear hr hR
 refine callsIn_of_wp Tryz.func76 rfl trivial ?_ rfl
 simp only [Tryz.ntmps76, List.size_toArray, List.length_cons, List.length_nil, Nat.reduceAdd, Nat.reduceSub, Array.replicate_succ, Array.replicate_zero, List.push_toArray, List.append_toArray, List.nil_append, List.cons_append]
 gi_wp2
 refine H1.out.mono ?_
 rintro e W2 ⟨b, rfl, hk, hb⟩
 clear hy H1 c0 c1
 cases b with
 | false =>
   gi_wp2
   go_end0
   exact ⟨⟨_, rfl⟩, .inr ⟨[(ax, ay)], by simp, hb⟩⟩
 | true =>
   have hR2 := hk.row HR.out
   have c2 := hR2.c 2 rfl
   have c3 := hR2.c 3 rfl
   have lE := hR2.lt
   obtain ⟨fn, tmps, assign, body, hy, hr⟩ := HY.out [(ax, ay)] (bx, bY) W2 hb hk.1 (by simp)
   have H2 := Lib.hid hr
   unfold encN at hy
   clear hr hR2
   gi_wp2
   refine H2.out.mono ?_
   rintro e W3 ⟨b, rfl, hk, hb⟩
   clear hy H2 c2 c3
   gi_wp2
   go_end0
   refine ⟨⟨_, rfl⟩, ?_⟩
   cases b with
   | false => exact .inr ⟨[(ax, ay), (bx, bY)], by simp, hb⟩
   | true => exact .inl hb
end Go.Proofs.YtongeeggaigepaaGreatDoor
