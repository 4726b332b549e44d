/-
  The walks of card's Put: flag, numbers, Put.
-/
import Derived.Test.YtmbmgncajfamiaaCrdMay
import Derived.Test.YtmbmgncajfamiaaKept
import Derived.BigRegion
namespace Go.Proofs.Ytmbmgncajfamiaa.Crd
open Go.RowKit RowLaw Crc Fld
set_option maxRecDepth 100000

theorem flag_any (b : Bool) (w : World) : Calls Try.prog 23 #[.bool b] w fun e w' => e = .returned (.int .u8 (flagN b : Int)) ∧ w' = w := by
  cases b
  · go_enter Try.func23, Try.ntmps23
    go_wp2
    go_ret
    exact ⟨rfl, rfl⟩
  · go_enter Try.func23, Try.ntmps23
    go_wp2
    go_ret
    exact ⟨rfl, rfl⟩

/-- the pointers to a card's numbers -/
def ptrs (p : Nat) : Array Value := #[.pointer (some ⟨p, 1, none⟩), .pointer (some ⟨p, 2, none⟩), .pointer (some ⟨p, 3, none⟩), .pointer (some ⟨p, 4, none⟩), .pointer (some ⟨p, 5, none⟩), .pointer (some ⟨p, 6, none⟩), .pointer (some ⟨p, 7, none⟩)]
theorem ptrs_get (p j : Nat) (hj : j < 7) : (ptrs p)[j]? = some (.pointer (some ⟨p, 1 + j, none⟩)) := by
  rcases (by omega : j = 0 ∨ j = 1 ∨ j = 2 ∨ j = 3 ∨ j = 4 ∨ j = 5 ∨ j = 6) with rfl | rfl | rfl | rfl | rfl | rfl | rfl <;> rfl
/-- what numbers answers -/
def NumsAns (p : Nat) (w : World) (e : Ending) (w' : World) : Prop :=
  ∃ q, w.heap.size ≤ q ∧ e = .returned (.slice (some ⟨q, 0, none⟩) 7 7) ∧ w'.heap[q]? = some (.cells (ptrs p) 57 (0, 0)) ∧ Below w.heap.size w w'

set_option maxHeartbeats 3200000 in
theorem numbers_any (p : Nat) (w : World) :
    Calls Try.prog 21 #[.pointer (some ⟨p, 0, none⟩)] w fun e w' => NumsAns p w e w' := by
  go_enter Try.func21, Try.ntmps21
  go_wp2
  go_region
  all_goals
    go_wp2
    go_ret
    exact ⟨w.heap.size, Nat.le_refl _, rfl, heap_alloc_new w _, ((Below.refl _ _).alloc (Nat.le_refl _) _).drew⟩

theorem Kept.apart {w W W' : World} {K : List (Nat × Obj)} {q : Nat} (h : Kept w K W) (ha : Apart q W W') (hq : w.heap.size ≤ q) (hne : ∀ x ∈ K, x.1 ≠ q) : Kept w K W' :=
  ⟨h.bel.trans (ha.below hq h.bel.size), fun x hx => ⟨(h.has x hx).1, (ha.block x.1 (Array.getElem?_eq_some_iff.1 (h.has x hx).2).1 (hne x hx)).trans (h.has x hx).2⟩⟩
/-- blocks that stay, and a writer apart from them -/
structure WBox (w : World) (K : List (Nat × Obj)) (q : Nat) (f : Option (List UInt8)) (W : World) : Prop where
  kept : Kept w K W
  wr : WIs W q f
  le : w.heap.size ≤ q
  ne : ∀ x ∈ K, x.1 ≠ q
section
variable {w W W' : World} {K : List (Nat × Obj)} {q : Nat} {f f' : Option (List UInt8)}
theorem WBox.num (h : WBox w K q f W) (x : Nat) (width : Int) (hf : app f (numBytes x width) = f') :
    Calls Try.prog 22 #[.pointer (some ⟨q, 0, none⟩), .int .u64 (x : Int), .int .i64 width] W fun e W' => e = .returned (.tuple #[]) ∧ WBox w K q f' W' := by
  subst hf
  exact (Num_any f q x width W h.wr).mono fun _ W' ⟨he, hw, ha⟩ => ⟨he, Kept.apart h.kept ha h.le h.ne, hw, h.le, h.ne⟩
theorem WBox.text (h : WBox w K q f W) (s : ByteArray) (room : Int) (hf : app f (textBytes s room) = f') :
    Calls Try.prog 20 #[.pointer (some ⟨q, 0, none⟩), .string s, .int .i64 room] W fun e W' => e = .returned (.tuple #[]) ∧ WBox w K q f' W' := by
  subst hf
  exact (Text_any f q s room W h.wr).mono fun _ W' ⟨he, hw, ha⟩ => ⟨he, Kept.apart h.kept ha h.le h.ne, hw, h.le, h.ne⟩
theorem WBox.below (h : WBox w K q f W) (hb : Below W.heap.size W W') : WBox w K q f W' := ⟨h.kept.below hb, h.wr.of_block (hb.block q h.wr.lt), h.le, h.ne⟩
/-- a new block stays, too -/
theorem WBox.more (h : WBox w K q f W) (hb : Below W.heap.size W W') {u : Nat} {o : Obj} (hu : W.heap.size ≤ u) (ho : W'.heap[u]? = some o) : WBox w ((u, o) :: K) q f W' := by
  have h2 := h.below hb
  have hlt := h.wr.lt
  refine ⟨⟨h2.kept.bel, fun x hx => ?_⟩, h2.wr, h2.le, fun x hx => ?_⟩
  · rcases List.mem_cons.1 hx with rfl | hx
    · exact ⟨Nat.le_trans h.kept.bel.size hu, ho⟩
    · exact h2.kept.has x hx
  · rcases List.mem_cons.1 hx with rfl | hx
    · show u ≠ q
      omega
    · exact h2.ne x hx
end
theorem app_at (f bs : List UInt8) (h : f.length + bs.length ≤ 251) : app (some f) (some bs) = some (f ++ bs) := if_pos h
theorem app_text {c : Cd} (h : c.s.size ≤ 24) : app (some []) (textBytes c.s 24) = some (cdTo c 0) := by
  have hb : textBytes c.s 24 = some (textField c.s 24) := if_pos (decide_eq_true ⟨by omega, by omega, by omega⟩)
  rw [hb, app_at _ _ (by rw [name_length h]; simp), List.nil_append, cdTo_zero]
theorem numBytes4 (n : Nat) : numBytes n 4 = some (leB n 4) := by unfold numBytes; rw [if_pos (by decide)]; rfl
theorem numBytes1 (n : Nat) : numBytes n 1 = some (leB n 1) := by unfold numBytes; rw [if_pos (by decide)]; rfl
theorem app_num {c : Cd} (h : c.s.size ≤ 24) (j : Nat) (hj : j < (nums c).length) : app (some (cdTo c j)) (numBytes (nums c)[j] 4) = some (cdTo c (j + 1)) := by
  have hj' := hj
  rw [nums_length] at hj'
  rw [numBytes4, app_at _ _ (by rw [leB_length, cdTo_length h j (by omega)]; omega), cdTo_succ c j hj]
theorem app_only {c : Cd} (h : c.s.size ≤ 24) : app (some (cdTo c 7)) (numBytes (flagN c.only) 1) = some (cdF c) := by
  rw [numBytes1, app_at _ _ (by rw [leB_length, cdTo_length h 7 (by omega)]; omega)]
  rfl
theorem below_row {w W : World} {B q : Nat} {cs : Array Value} (h : Below B w W) (hq : B ≤ q) : Below B w (W.setRow q cs) :=
  h.trans ⟨rfl, rfl, rfl, by simp, fun k hk => setRow_other W _ _ _ (by omega)⟩
def cardO (c : Cd) : Obj := .cells (cells c) 26
def blockO (l : List UInt8) : Obj := .cells (cellsOf l) 29

set_option maxHeartbeats 1600000 in
theorem Put_no (c : Cd) (hm : mayB c = false) (w : World) :
    Calls Try.prog 8 #[.agg (cells c)] w fun e w' => e = .returned (.tuple #[.agg (cellsOf zeros), .int .i64 5]) ∧ Below w.heap.size w w' := by
  have hzv := (zero_of_info infoBlock).1
  have hi := sizeBlock zeros zeros_length
  have hK : Kept w [(w.heap.size + 1, blockO zeros), (w.heap.size, cardO c)] ((w.alloc (.cells (cells c) 26)).alloc (.cells (cellsOf zeros) 29)) := by
    have h := ((Kept.start w).alloc (cardO c)).alloc (blockO zeros)
    rw [show (w.alloc (cardO c)).heap.size = w.heap.size + 1 from by simp] at h
    exact h
  have hcall := fun W => May_any c W
  rw [hm] at hcall
  go_enter Try.func8, Try.ntmps8
  go_wp2_with (refine wpList_load_row rfl 26 _ rfl (w.heap.size) rfl _ _ _ _ (hK.at_ (q := w.heap.size) (o := cardO c) (by simp)) Try.underlying26 rfl (sizeC c) ?_)
  refine (hcall _).mono ?_
  rintro e W1 ⟨rfl, hx⟩
  replace hK := hK.below hx
  clear hx
  have hR := hK.at_ (q := w.heap.size + 1) (o := blockO zeros) (by simp)
  go_wp2_with (refine wpList_store_row rfl 29 _ _ rfl _ _ rfl rfl _ _ hR hi rfl (cellsOf_one _) ?_)
  exact bodyPost_ret (results_row_tmp rfl _ _ _ _ _ _ _ rfl (setRow_heap _ _ _ _ _ _ hR) Try.underlying29 rfl hi) rfl ⟨rfl, below_row hK.bel (by omega)⟩

set_option maxHeartbeats 3200000 in
theorem Put_yes (c : Cd) (hm : mayB c = true) (hf : c.Fits) (w : World) :
    Calls Try.prog 8 #[.agg (cells c)] w fun e w' => e = .returned (.tuple #[.agg (cellsOf (cdB c)), .int .i64 0]) ∧ Below w.heap.size w w' := by
  have hs := (mayB_iff.1 hm).1.2
  have hlen := cdB_length hs
  have hzv := (zero_of_info infoBlock).1
  have hi := sizeBlock _ hlen
  have hzz : (cellsOf zeros).size = (cellsOf (cdB c)).size := by rw [cellsOf_size, cellsOf_size, hlen, zeros_length]
  have hK : Kept w [(w.heap.size + 1, blockO zeros), (w.heap.size, cardO c)] ((w.alloc (.cells (cells c) 26)).alloc (.cells (cellsOf zeros) 29)) := by
    have h := ((Kept.start w).alloc (cardO c)).alloc (blockO zeros)
    rw [show (w.alloc (cardO c)).heap.size = w.heap.size + 1 from by simp] at h
    exact h
  have hcall := fun W => May_any c W
  rw [hm] at hcall
  have HN := Lib.hid (fun j hj => app_num hs j hj)
  have HT := Lib.hid (app_text hs)
  have HO := Lib.hid (app_only hs)
  have HL := Lib.hid (fun j hj => nums_lt hf j hj)
  have hcd : fdone (cdF c) 67 = cdB c := rfl
  have HB := Lib.hid hcd
  have hflag := flagN_lt c.only
  generalize cdB c = B at hi hzz HB ⊢
  clear hm hf hs hlen hcd
  go_enter Try.func8, Try.ntmps8
  go_wp2_with (refine wpList_load_row rfl 26 _ rfl (w.heap.size) rfl _ _ _ _ (hK.at_ (q := w.heap.size) (o := cardO c) (by simp)) Try.underlying26 rfl (sizeC c) ?_)
  refine (hcall _).mono ?_
  rintro e W1 ⟨rfl, hx⟩
  replace hK := hK.below hx
  clear hx hcall
  go_wp2_with fail
  refine (New_any _).mono ?_
  rintro e W2 ⟨rfl, hw, hx⟩
  have hbox : WBox w _ W1.heap.size (some []) W2 := ⟨hK.below hx, hw, hK.bel.size, hK.notin⟩
  clear hK hw hx
  generalize W1.heap.size = q at hbox ⊢
  have c0 := IsCd.name (hbox.kept.at_ (q := w.heap.size) (o := cardO c) (by simp))
  go_wp2_with fail
  refine (hbox.text c.s 24 HT.out).mono ?_
  clear hbox c0
  rintro e W3 ⟨rfl, hbox⟩
  go_wp2_with fail
  refine (numbers_any w.heap.size _).mono ?_
  rintro e W4 ⟨u, hu, rfl, hpu, hx⟩
  replace hbox := hbox.more hx hu hpu
  clear hu hpu hx
  go_wp2_with fail
  go_loopw [6, 18] (fun v i wr => ∃ k : Nat, k ≤ 7 ∧ i = .int .i64 k ∧ WBox w [(u, .cells (ptrs w.heap.size) 57 (0, 0)), (w.heap.size + 1, blockO zeros), (w.heap.size, cardO c)] q (some (cdTo c k)) wr) (fun v i _ => 7 - (intOf i).toNat)
  case atStart => exact ⟨0, by omega, rfl, hbox⟩
  case round =>
    obtain ⟨k, hk, rfl, hbk⟩ := hrel
    clear hbox
    by_cases hlt : k < 7
    · have hkl : k < (nums c).length := hlt
      have hc := IsCd.num (hbk.kept.at_ (q := w.heap.size) (o := cardO c) (by simp)) k hkl
      have hp : wr.cell? ⟨u, 0 + k, none⟩ = some (.pointer (some ⟨w.heap.size, 1 + k, none⟩)) := (cell_of_row wr u (0 + k) _ _ _ (hbk.kept.at_ (q := u) (o := .cells (ptrs w.heap.size) 57 (0, 0)) (by simp))).trans (by rw [Nat.zero_add]; exact ptrs_get _ k hlt)
      have hnx := HN.out k hkl
      have hxl := HL.out k hkl
      obtain ⟨x, hx⟩ : ∃ x, x = (nums c)[k] := ⟨_, rfl⟩
      rw [← hx] at hc hnx hxl
      clear hx
      have HNX := Lib.hid hnx; clear hnx
      have z2 : IntKind.u64.wrap (x : Int) = (x : Int) := IntWalk.u64_in _ (by omega)
      rw [Nat.zero_add] at hp
      go_wp2_with fail
      refine (hbk.num x 4 HNX.out).mono ?_
      clear hbk hc hp
      rintro e W5 ⟨rfl, hbk⟩
      go_wp2_with fail
      go_roundw
      case rel => exact ⟨k + 1, by omega, by go_num, hbk⟩
      case measure => simp [intOf]; omega
    · obtain rfl : k = 7 := by omega
      have c8 := IsCd.only (hbk.kept.at_ (q := w.heap.size) (o := cardO c) (by simp))
      have z3 : IntKind.u64.wrap (flagN c.only : Int) = (flagN c.only : Int) := IntWalk.u64_in _ (by omega)
      go_wp2_with (go_at_call 23; (with_reducible refine (flag_any c.only _).mono ?_); rintro e W ⟨rfl, rfl⟩)
      refine (hbk.num (flagN c.only) 1 HO.out).mono ?_
      clear hbk c8
      rintro e W5 ⟨rfl, hbk⟩
      go_wp2_with fail
      refine (Done_some _ _ 67 _ hbk.wr).mono ?_
      rintro e W6 ⟨rfl, hb6⟩
      rw [HB.out]
      have hK := hbk.kept.below hb6
      clear hbk hb6
      have hR := hK.at_ (q := w.heap.size + 1) (o := blockO zeros) (by simp)
      go_wp2_with (refine wpList_store_row rfl 29 _ _ rfl _ _ rfl rfl _ _ hR hi hzz (cellsOf_one _) ?_)
      exact bodyPost_ret (results_row_tmp rfl _ _ _ _ _ _ _ rfl (setRow_heap _ _ _ _ _ _ hR) Try.underlying29 rfl hi) rfl ⟨rfl, below_row hK.bel (by omega)⟩

theorem Put_any (c : Cd) (hf : c.Fits) (w : World) :
    Calls Try.prog 8 #[.agg (cells c)] w fun e w' => e = .returned (.tuple #[.agg (cellsOf (putB c)), .int .i64 (putE c)]) ∧ Below w.heap.size w w' := by
  by_cases hm : mayB c = true
  · rw [putB_yes hm, putE_yes hm]; exact Put_yes c hm hf w
  · rw [putB_no hm, putE_no hm]; exact Put_no c (by simpa using hm) w

end Go.Proofs.Ytmbmgncajfamiaa.Crd
