/-
  What the steps of root.replace come to when root.run runs them.
-/
import Derived.Test.YtlojhdnahioicaaRotRepl
import Derived.Test.YtlojhdnahioicaaRotOpen
namespace Go.Proofs.Ytlojhdnahioicaa.Rot
open Go.RowKit RowLaw Crc
set_option maxRecDepth 100000
open Go.Proofs.Ytlojhdnahioicaa.Slt (Rt cells rootO rtB rtB_length infoR sizeR cells_one mayB)
open Go.Proofs.Ytlojhdnahioicaa.Dev (Dev DS ptr writeS writeE flushS flushE putCells pendCells Box Step Turn)

/-- rows that are none of the device's -/
def Apart (pa : Option Addr) (l : List (Nat × List UInt8)) (B : List Nat) : Prop := l ≠ [] → ∀ a, pa = some a → a.block ∉ B

theorem runTodo_any {w0 w : World} {p : Nat} {B : List Nat} {s : DS} (hd : Dev w0 p B s) {pa : Option Addr} {c : Nat} {l : List (Nat × List UInt8)} {r : Rt} {g c2 pb lb rb : Nat} {is : List Nat} (hil : is.length = l.length)
    (hT : Todo w0 p pa l.length c r pb lb rb is (.slice (some ⟨g, 0, none⟩) (l.length + 3) c2) (is.map (fStep pb lb) ++ [fSettle pb, fSwap rb pb, fSettle pb]) (l.length + 3) w)
    (hpu : Puts w0 pa l) (hap : Apart pa l B) (hm : mayB r = true) (hf : r.Fits) (hlen : s.pend.length + l.length < 4294967290) :
    Calls Try.prog 27 #[.slice (some ⟨g, 0, none⟩) (l.length + 3) c2] w fun e w' => e = .returned (.int .i64 (replF s l r).2) ∧ ∃ C, Dev w' p C (replF s l r).1 ∧ Step B w w' C := by
  have hltB := hd.ltB
  have hsz := hT.bel.size
  have hdw := hd.below hT.bel
  -- blocks that are new behind w0 are as they were in w
  have hnew : ∀ q, w0.heap.size ≤ q → q < w.heap.size → ∀ (s' : DS) W, Box w B p s' [] W → W.heap[q]? = w.heap[q]? := fun q h1 h2 s' W hW => hW.old h2 (fun hm => by have := hltB q hm; omega)
  have hgl : w0.heap.size ≤ g ∧ g < w.heap.size := by
    have h := hT.own
    exact ⟨(h.lt g rfl).1, (h.lt g rfl).2⟩
  have hcell : ∀ j, j < l.length + 3 → w.cell? ⟨g, j, none⟩ = (is.map (fStep pb lb) ++ [fSettle pb, fSwap rb pb, fSettle pb])[j]? := fun j hj => hT.own.cellAt j (by omega)
  have hdev : ∀ (s' : DS) W, Box w B p s' [] W → W.cell? ⟨pb, 0, none⟩ = some (ptr p) := fun s' W hW => by
    rw [cell_of_row W pb 0 _ _ _ ((hnew pb hT.dev.1 (Array.getElem?_eq_some_iff.1 hT.dev.2).1 s' W hW).trans hT.dev.2)]
    rfl
  have hlst : ∀ (s' : DS) W, Box w B p s' [] W → W.cell? ⟨lb, 0, none⟩ = some (.slice pa l.length c) := fun s' W hW => by
    rw [cell_of_row W lb 0 _ _ _ ((hnew lb hT.lst.1 (Array.getElem?_eq_some_iff.1 hT.lst.2).1 s' W hW).trans hT.lst.2)]
    rfl
  have hrt : ∀ (s' : DS) W, Box w B p s' [] W → W.heap[rb]? = some (.cells (cells r) 34 (0, 0)) := fun s' W hW => (hnew rb hT.rt.1 (Array.getElem?_eq_some_iff.1 hT.rt.2).1 s' W hW).trans hT.rt.2
  refine (run_any g (l.length + 3) c2 (by omega) (fun j => if j < l.length then 54 else if j = l.length + 1 then 56 else 55)
    (fun j => if j < l.length then #[ptr pb, ptr lb, ptr (is.getD j 0)] else if j = l.length + 1 then #[ptr rb, ptr pb] else #[ptr pb]) (esF s l r) (fun k W => Box w B p (stF s l r k) [] W) w ?_ ?_ ?_ (Box.start hdw)).mono ?_
  · intro k hk W
    by_cases h1 : k < l.length
    · rw [if_pos h1, if_pos h1]; simp [go_sem]
    · rw [if_neg h1, if_neg h1]
      by_cases h2 : k = l.length + 1
      · rw [if_pos h2, if_pos h2]; simp [go_sem]
      · rw [if_neg h2, if_neg h2]; simp [go_sem]
  · intro k W hW j hj
    rw [World.cell?_of_block (w := w) (a := ⟨g, j, none⟩) (hnew g hgl.1 hgl.2 _ W hW), hcell j hj]
    by_cases h1 : j < l.length
    · rw [if_pos h1, if_pos h1, List.getElem?_append_left (by simp; omega), List.getElem?_map, List.getElem?_eq_getElem (by omega), List.getD_eq_getElem?_getD, List.getElem?_eq_getElem (by omega)]
      rfl
    · rw [if_neg h1, if_neg h1, List.getElem?_append_right (by simp; omega), List.length_map, hil]
      rcases (by omega : j = l.length ∨ j = l.length + 1 ∨ j = l.length + 2) with rfl | rfl | rfl
      · rw [if_neg (by omega), if_neg (by omega), Nat.sub_self]; rfl
      · rw [if_pos rfl, if_pos rfl, show l.length + 1 - l.length = 1 by omega]; rfl
      · rw [if_neg (by omega), if_neg (by omega), show l.length + 2 - l.length = 2 by omega]; rfl
  · intro k hk _ W hW

    have hpl := stF_pend (s := s) (l := l) (r := r) k
    by_cases h1 : k < l.length
    · rw [if_pos h1, if_pos h1, (esF_w h1).1, (esF_w h1).2]
      have hne : l ≠ [] := fun e => by rw [e] at h1; simp at h1
      obtain ⟨hok, hat⟩ := hpu
      rcases hat with h0 | ⟨b, off, rfl, hb, hat⟩
      · exact absurd h0 hne
      have hbB := hap hne _ rfl
      have hxk := hok _ (List.getElem_mem h1)
      have hik : is.getD k 0 = is[k]'(by omega) := by rw [List.getD_eq_getElem?_getD, List.getElem?_eq_getElem (by omega)]; rfl
      have hii := hT.ints k (by omega)
      have hc2 : W.cell? ⟨is.getD k 0, 0, none⟩ = some (.int .i64 (k : Int)) := by
        rw [hik, cell_of_row W _ 0 _ _ _ ((hnew _ hii.1 (Array.getElem?_eq_some_iff.1 hii.2).1 _ W hW).trans hii.2)]
        rfl
      refine step1_any hW (hdev _ W hW) (hlst _ W hW) hc2 h1 (fun j v hv => ?_) hxk.1 hxk.2 (by omega)
      rw [World.cell?_of_block (w := w) (a := ⟨b, off + k * 257 + j, none⟩) (hW.old (b := b) (by omega) hbB), World.cell?_of_block (w := w0) (a := ⟨b, off + k * 257 + j, none⟩) (hT.bel.block b hb)]
      exact hat k h1 j v hv
    · rw [if_neg h1, if_neg h1]
      rcases (by omega : k = l.length ∨ k = l.length + 1 ∨ k = l.length + 2) with rfl | rfl | rfl
      · rw [if_neg (by omega), if_neg (by omega), esF_f.1, esF_f.2]
        exact step2_any hW (hdev _ W hW) (by omega)
      · rw [if_pos rfl, if_pos rfl, esF_r.1, esF_r.2]
        exact step3_any hW (hrt _ W hW) (fun W' K s' h => ⟨hdev s' W' (h.less (fun _ h => by cases h)), hrt s' W' (h.less (fun _ h => by cases h))⟩) hm hf (by omega)
      · rw [if_neg (by omega), if_neg (by omega), esF_g.1, esF_g.2]
        exact step2_any hW (hdev _ W hW) (by omega)
  · rintro e W ⟨m, z, rfl, hs, hW⟩
    rw [stop_repl hs]
    exact ⟨rfl, hW.out⟩

end Go.Proofs.Ytlojhdnahioicaa.Rot
