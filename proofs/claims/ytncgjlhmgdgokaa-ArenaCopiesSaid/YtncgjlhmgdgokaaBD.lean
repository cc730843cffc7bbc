/- m[k] = v by way of the entry, where no entry is there; no condition. -/
import Derived.Test.YtncgjlhmgdgokaaBC
namespace Go.Proofs.Ytncgjlhmgdgokaa
open Go.RowKit Go.Sort ArenaMath Go.Maps
open Go.WideElems (Fit rd rg pl rd_val elemAt)
open Go.ChangeMaps

theorem entry_two {H : Type} {P : Program} {w : World} {t k e : TypeId} {R : Value → Option (DataW H × List MemPlace)} {b n : Nat} {D : DataW H} (h : w.ownsMap P k R b n D) (K : Keyed P k) (ht : P.underlying t = some (.map k e)) (hn : n < maxLen)
    {z : Value} (hz : ∀ W, (zeroValue e).run P W = .ok z W) {key val : Value} {kl : Lit} {d : DataW H} {ps : List MemPlace} (hkey : keyOf P k key = some kl) (hnot : ∀ zd, D.atKey kl zd = zd) (hv : R val = some (d, ps)) :
    ∃ st w1 w2, (Instr.mapEntry t (.map (some b)) key).run P w = .ok (.tuple #[z, .int .i64 st]) w1 ∧ (Instr.entryStore t (.map (some b)) (.int .i64 st) val).run P w1 = .ok () w2 ∧ w2.ownsMap P k R b (n + 1) (D.put kl d) ∧ w.grownBy w2 (some b) := by
  obtain ⟨w', hrun, r1, r2⟩ := h.update K ht hn hkey hv
  obtain ⟨es, clock, hb, F, hs, rfl⟩ := h
  rcases fit_look false K ht (hz w) hb F hkey with ⟨_, hno, _⟩ | ⟨e0, y, he0, hk0, _, _, hat, _⟩
  · rcases K.find w hkey es.toList F.keys with ⟨h1, h2⟩ | ⟨j, e0, h1, h2, h3⟩
    · have e1 : (Instr.mapEntry t (.map (some b)) key).run P w = .ok (.tuple #[z, .int .i64 clock]) (setBlock w b (.map (es.push ⟨key, z, clock⟩) (clock + 1))) := by
        simp [Instr.mapEntry, run_underlying ht, MapKept.run_getObj_map hb, K.check w false hkey, h1, hz, MapKept.run_setObj_map _ hb, Result.andThen, setBlock, goInt]
      have e2 : (Instr.mapUpdate t (.map (some b)) key val).run P w = .ok () (setBlock w b (.map (es.push ⟨key, val, clock⟩) (clock + 1))) := by
        simp [Instr.mapUpdate, run_underlying ht, MapKept.run_getObj_map hb, K.check w false hkey, h1, MapKept.run_setObj_map _ hb, Result.andThen, setBlock]
      have hb1 : (setBlock w b (.map (es.push ⟨key, z, clock⟩) (clock + 1))).heap[b]? = some (.map (es.push ⟨key, z, clock⟩) (clock + 1)) := heap_setBlock_same hb _
      have hlt := F.stamped.1
      have hidx : (es.push (⟨key, z, clock⟩ : MapEntry)).findIdx? (fun e => ((e.born : Int) == (clock : Int))) = some es.size := by
        have hno2 : es.findIdx? (fun e => ((e.born : Int) == (clock : Int))) = none := by
          rw [Array.findIdx?_eq_none_iff]
          intro x hx
          have := hlt x (by simpa using hx)
          simp; omega
        rw [Array.findIdx?_push, hno2]
        simp
      have hmod : (es.push (⟨key, z, clock⟩ : MapEntry)).modify es.size (fun e => { e with val := val }) = es.push ⟨key, val, clock⟩ := by
        apply Array.ext
        · simp
        · intro i h1 h2
          simp only [Array.getElem_modify, Array.getElem_push]
          by_cases e : i < es.size
          · simp [e]; intro e'; omega
          · have : i = es.size := by simp at h2; omega
            simp [this]
      have e3 : (Instr.entryStore t (.map (some b)) (.int .i64 clock) val).run P (setBlock w b (.map (es.push ⟨key, z, clock⟩) (clock + 1))) = .ok () (setBlock w b (.map (es.push ⟨key, val, clock⟩) (clock + 1))) := by
        simp only [Instr.entryStore, Sem.run_bind, MapKept.run_getObj_map hb1, Result.andThen]
        simp [asInt, asIntOf, hidx, hmod]
        rw [MapKept.run_setObj_map _ hb1]
        simp [setBlock]
      rw [hrun] at e2
      have ew : w' = setBlock w b (.map (es.push ⟨key, val, clock⟩) (clock + 1)) := by injection e2
      exact ⟨clock, _, _, e1, e3, ew ▸ r1, ew ▸ r2⟩
    · exact absurd h3 (hno e0 (List.mem_of_getElem? h2))
  · have h1 := hnot (.lit (.bool true))
    have h2 := hnot (.lit (.bool false))
    rw [hat] at h1 h2
    rw [h1] at h2
    cases h2
end Go.Proofs.Ytncgjlhmgdgokaa
