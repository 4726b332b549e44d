/-
  Slt3: SltPut, SltGet, SltTorn.
-/
import Derived.Test.YtojpcgjmainbfaaGreatSlt2
import Derived.Test.YtojpcgjmainbfaaGreatFld3
import Derived.Test.YtojpcgjmainbfaaGreatFld2
import Derived.StillTailTactics
import Derived.Deep.QuietTactic
import Derived.BigQuiet
import Derived.Test.YtojpcgjmainbfaaGreatSlt1
import Derived.Laws.CopyOwn
/-
  The walks of slot's Put and Get.
-/
namespace Go.Proofs.YtojpcgjmainbfaaGreat.Slt
open Go.RowKit RowLaw Crc Fld
set_option maxRecDepth 100000

set_option maxHeartbeats 3200000 in
theorem Put_yes (r : Rt) (hm : mayB r = true) (hf : r.Fits) (w : World) :
    Calls Tryz.prog 92 #[.agg (cells r)] w fun e w' => e = .returned (.tuple #[.agg (cellsOf (rtB r)), .int .i64 0]) ∧ Below w.heap.size w w' := by
  have hmf : ∀ (fn : Fn) (first cap : Array Value) (w : World), (Instr.makeFunc fn first cap).run Tryz.prog w = .ok (.func fn first cap) w := fun _ _ _ _ => rfl
  have hlen := rtB_length r
  have hzv := (zero_of_info infoBlock).1
  have hi := sizeBlock _ hlen
  have hzz : (cellsOf zeros).size = (cellsOf (rtB r)).size := by rw [cellsOf_size, cellsOf_size, hlen, zeros_length]
  have hK : Kept w [(w.heap.size + 1, blockO zeros), (w.heap.size, rootO r)] ((w.alloc (.cells (cells r) 31)).alloc (.cells (cellsOf zeros) 39)) := by
    have h := ((Kept.start w).alloc (rootO r)).alloc (blockO zeros)
    rw [show (w.alloc (rootO r)).heap.size = w.heap.size + 1 from by simp] at h
    exact h
  have hcall := fun W => May_any r W
  rw [hm] at hcall
  have hcd : fdone (rtF r) 82 = rtB r := rfl
  have HB := Lib.hid hcd
  generalize rtB r = B at hi hzz HB ⊢
  clear hm hlen hcd
  go_enter Tryz.func92, Tryz.ntmps92
  go_wp2_with (refine wpList_load_row rfl 31 _ rfl (w.heap.size) rfl _ _ _ _ (hK.at_ (q := w.heap.size) (o := rootO r) (by simp)) Tryz.underlying31 rfl (sizeR r) ?_)
  refine (hcall _).mono ?_
  rintro e W1 ⟨rfl, hx⟩
  replace hK := hK.below hx
  clear hx hcall
  go_wp2_with fail
  refine (New_any _).mono ?_
  rintro e W2 ⟨rfl, hw, hx⟩
  have hbox : WBox w _ W1.heap.size (some []) W2 := ⟨hK.below hx, hw, hK.bel.size, hK.notin⟩
  clear hK hw hx
  generalize W1.heap.size = q at hbox ⊢
  go_wp2_with fail
  refine (fields_any w.heap.size _).mono ?_
  rintro e W3 ⟨v, rfl, ho, hx⟩
  obtain ⟨g, cap, cur, rfl, hg, hcur, hpl⟩ := own_places ho
  have hbox2 := hbox.more hx hg hcur
  clear hbox hx hg hcur ho
  go_wp2_with fail
  refine (write_any w _ q g cap w.heap.size cur r (by simp) (by simp) hpl hf _ hbox2).mono ?_
  clear hbox2 hpl
  rintro e W4 ⟨rfl, hbk⟩
  go_wp2_with fail
  refine (Done_some _ _ 82 _ hbk.wr).mono ?_
  rintro e W6 ⟨rfl, hb6⟩
  rw [HB.out]
  have hK := hbk.kept.below hb6
  clear hbk hb6
  have hR := hK.at_ (q := w.heap.size + 1) (o := blockO zeros) (by simp)
  go_wp2_with (refine wpList_store_row rfl 39 _ _ rfl _ _ rfl rfl _ _ hR hi hzz (cellsOf_one _) ?_)
  exact bodyPost_ret (results_row_tmp rfl _ _ _ _ _ _ _ rfl (setRow_heap _ _ _ _ _ _ hR) Tryz.underlying39 rfl hi) rfl ⟨rfl, below_row hK.bel (by omega)⟩

end Go.Proofs.YtojpcgjmainbfaaGreat.Slt

/-
  The walk of slot's Get.
-/
namespace Go.Proofs.YtojpcgjmainbfaaGreat.Slt
open Go.RowKit RowLaw Crc Fld
set_option maxRecDepth 100000

end Go.Proofs.YtojpcgjmainbfaaGreat.Slt

/-
  The walks of slot's Torn and of the reference's.
-/
namespace Go.Proofs.YtojpcgjmainbfaaGreat.Slt
open Go.RowKit RowLaw Crc Fld
set_option maxRecDepth 100000

/-- sector i of new, in old -/
def sect (old new : List UInt8) (i : Nat) : List UInt8 := old.take (i * 64) ++ ((new.drop (i * 64)).take 64 ++ old.drop (i * 64 + 64))
def keepTo (old new : List UInt8) (m : Nat) : Nat → List UInt8
  | 0 => old
  | k + 1 => if m.testBit k then sect (keepTo old new m k) new k else keepTo old new m k
theorem sect_length {old new : List UInt8} (ho : old.length = 256) (hn : new.length = 256) {i : Nat} (hi : i < 4) : (sect old new i).length = 256 := by
  simp [sect, ho, hn]; omega
theorem sect_get {old new : List UInt8} (ho : old.length = 256) (hn : new.length = 256) {i : Nat} (hi : i < 4) (j : Nat) : (sect old new i)[j]? = if j / 64 = i then new[j]? else old[j]? := by
  unfold sect
  by_cases h1 : j < i * 64
  · rw [List.getElem?_append_left (by simp [ho]; omega), if_neg (by omega), List.getElem?_take_of_lt h1]
  · rw [List.getElem?_append_right (by simp [ho]; omega)]
    have e1 : (old.take (i * 64)).length = i * 64 := by simp [ho]; omega
    rw [e1]
    have e2 : ((new.drop (i * 64)).take 64).length = 64 := by simp [hn]; omega
    by_cases h2 : j < i * 64 + 64
    · rw [List.getElem?_append_left (by rw [e2]; omega), if_pos (by omega), List.getElem?_take_of_lt (by omega), List.getElem?_drop]
      congr 1; omega
    · rw [List.getElem?_append_right (by rw [e2]; omega), if_neg (by omega), e2, List.getElem?_drop]
      congr 1; omega
theorem keepTo_length {old new : List UInt8} (ho : old.length = 256) (hn : new.length = 256) (m : Nat) : ∀ k, k ≤ 4 → (keepTo old new m k).length = 256
  | 0, _ => ho
  | k + 1, hk => by
    have ih := keepTo_length ho hn m k (by omega)
    unfold keepTo
    split
    · exact sect_length ih hn (by omega)
    · exact ih
theorem keepTo_get {old new : List UInt8} (ho : old.length = 256) (hn : new.length = 256) (m : Nat) (j : Nat) (hj : j < 256) : ∀ k, k ≤ 4 → (keepTo old new m k)[j]? = if j / 64 < k ∧ m.testBit (j / 64) = true then new[j]? else old[j]?
  | 0, _ => by rw [if_neg (by omega)]; rfl
  | k + 1, hk => by
    have ih := keepTo_get ho hn m j hj k (by omega)
    have hl := keepTo_length ho hn m k (by omega)
    unfold keepTo
    by_cases hb : m.testBit k = true
    · rw [if_pos hb, sect_get hl hn (by omega) j, ih]
      by_cases hjk : j / 64 = k
      · rw [if_pos hjk, if_pos ⟨by omega, by rw [hjk]; exact hb⟩]
      · rw [if_neg hjk]
        by_cases h : j / 64 < k ∧ m.testBit (j / 64) = true
        · rw [if_pos h, if_pos ⟨by omega, h.2⟩]
        · rw [if_neg h, if_neg (fun h' => h ⟨by omega, h'.2⟩)]
    · rw [if_neg hb, ih]
      by_cases h : j / 64 < k ∧ m.testBit (j / 64) = true
      · rw [if_pos h, if_pos ⟨by omega, h.2⟩]
      · rw [if_neg h, if_neg (fun h' => h ⟨by
          have : j / 64 ≠ k := fun e => hb (e ▸ h'.2)
          omega, h'.2⟩)]
end Go.Proofs.YtojpcgjmainbfaaGreat.Slt

