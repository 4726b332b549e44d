/-
  The statements' known answers: one device, walked.
-/
import Derived.Test.YtlgjgobelceheaaDevLive
namespace Go.Proofs.Ytlgjgobelceheaa.Dev
open Go.RowKit RowLaw

def gZ : Nat → List UInt8 := fun _ => zeros
def bA : List UInt8 := fullB 97
def bB : List UInt8 := fullB 98
def bM : List UInt8 := keepB bA bB 9
theorem bA_len : bA.length = 256 := fullB_length 97
theorem bB_len : bB.length = 256 := fullB_length 98
theorem bM_len : bM.length = 256 := keepB_length bA_len bB_len 9
def t1 : DS := ⟨64, gZ, [(5, bA)], -1, false, 1⟩
def t2 : DS := ⟨64, upd gZ 5 bA, [], -1, false, 2⟩
def t3 : DS := ⟨64, upd gZ 5 bA, [(5, bB)], -1, false, 3⟩
def t4 : DS := ⟨64, upd (upd gZ 5 bA) 5 bM, [], -1, false, 3⟩
def t5 : DS := ⟨64, upd (upd gZ 5 bA) 5 bM, [], 1, false, 3⟩
def t6 : DS := ⟨64, upd (upd gZ 5 bA) 5 bM, [(6, bA)], 0, false, 4⟩
def t7 : DS := ⟨64, upd (upd gZ 5 bA) 5 bM, [(6, bA)], 0, true, 4⟩
def t8 : DS := ⟨64, upd (upd (upd gZ 5 bA) 5 bM) 6 (keepB zeros bA 15), [], -1, false, 4⟩
theorem w1 : writeS (newS 64) 5 bA = t1 := rfl
theorem w2 : flushS t1 = t2 := rfl
theorem w3 : writeS t2 5 bB = t3 := rfl
theorem w3b : writeS t3 64 bB = t3 := rfl
theorem w4 : crashS t3 [(0, 9)] = t4 := rfl
theorem w5 : fuseS t4 1 = t5 := rfl
theorem w6 : writeS t5 6 bA = t6 := rfl
theorem w7 : flushS t6 = t7 := rfl
theorem w7b : writeS t7 6 bB = t7 := rfl
theorem w8 : crashS t7 [(0, 15)] = t8 := rfl
theorem r1 : readR t1 5 = bA := rfl
theorem r4 : readR t4 5 = bM := rfl
theorem keep_all {old new : List UInt8} (ho : old.length = 256) (hn : new.length = 256) : keepB old new 15 = new := by
  apply List.ext_getElem?
  intro j
  by_cases hj : j < 256
  · rw [keepB_get ho hn 15 j hj]
    have hk : j / 64 = 0 ∨ j / 64 = 1 ∨ j / 64 = 2 ∨ j / 64 = 3 := by omega
    rcases hk with h | h | h | h <;> rw [h] <;> rfl
  · rw [List.getElem?_eq_none (by rw [keepB_length ho hn]; omega), List.getElem?_eq_none (by omega)]
theorem r8 : readR t8 6 = bA := keep_all zeros_length bA_len
theorem bM_at (j : Nat) (hj : j < 256) : bM[j]'(by rw [bM_len]; exact hj) = if Nat.testBit 9 (j / 64) = true then 98 else 97 := by
  have h := keepB_get bA_len bB_len 9 j hj
  have h2 : bM[j]? = some (bM[j]'(by rw [bM_len]; exact hj)) := List.getElem?_eq_getElem _
  have h3 : bM[j]? = if Nat.testBit 9 (j / 64) = true then bB[j]? else bA[j]? := h
  rw [h2] at h3
  have hA : bA[j]? = some 97 := by
    show (List.replicate 256 (97 : UInt8))[j]? = some 97
    rw [List.getElem?_replicate, if_pos hj]
  have hB : bB[j]? = some 98 := by
    show (List.replicate 256 (98 : UInt8))[j]? = some 98
    rw [List.getElem?_replicate, if_pos hj]
  rw [hA, hB] at h3
  split at h3
  · rename_i h4; rw [if_pos h4]; exact Option.some.inj h3
  · rename_i h4; rw [if_neg h4]; exact Option.some.inj h3

theorem bM_cell (j : Nat) (hj : j < 256) : (cellsOf bM)[j]? = some (.int .u8 (if Nat.testBit 9 (j / 64) = true then 98 else 97)) := by
  rw [cellsOf_get bM j (by rw [bM_len]; exact hj), bM_at j hj]
  split <;> rfl

section
variable {w W : World} {p : Nat} {s : DS} {K : List (Nat × Obj)}
theorem full97 (h : Live w p s K W) : Calls Try.prog 22 #[.int .u8 97] W fun e W' => e = .returned (.agg (cellsOf bA)) ∧ Live w p s K W' := full_live h 97
theorem full98 (h : Live w p s K W) : Calls Try.prog 22 #[.int .u8 98] W fun e W' => e = .returned (.agg (cellsOf bB)) ∧ Live w p s K W' := full_live h 98
theorem write_as {a : Nat} {l : List UInt8} {s' : DS} {e' : Int} (h : Live w p s K W) (ha : a < 4294967296) (hl : l.length = 256) (hlen : s.pend.length < 4294967295) (hs : writeS s a l = s') (he : writeE s a = e') :
    Calls Try.prog 17 #[ptr p, .int .u32 (a : Int), .agg (cellsOf l)] W fun e W' => e = .returned (.int .i64 e') ∧ Live w p s' K W' := by
  subst hs he; exact Write_live h ha hl hlen
theorem flush_as {s' : DS} {e' : Int} (h : Live w p s K W) (hlen : s.pend.length < 4294967296) (hs : flushS s = s') (he : flushE s = e') :
    Calls Try.prog 14 #[ptr p] W fun e W' => e = .returned (.int .i64 e') ∧ Live w p s' K W' := by
  subst hs he; exact Flush_live h hlen
theorem read_as {a : Nat} {l : List UInt8} (h : Live w p s K W) (ha : a < 4294967296) (hlen : s.pend.length < 4294967296) (hs : readR s a = l) {e' : Int} (he : readE s a = e') :
    Calls Try.prog 15 #[ptr p, .int .u32 (a : Int)] W fun e W' => e = .returned (.tuple #[.agg (cellsOf l), .int .i64 e']) ∧ Live w p s K W' := by
  subst hs he; exact Read_live h ha hlen
theorem fuse_as {z : Int} {s' : DS} {e' : Int} (h : Live w p s K W) (hz : z < 9223372036854775808) (hs : fuseS s z = s') (he : fuseE s z = e') :
    Calls Try.prog 18 #[ptr p, .int .i64 z] W fun e W' => e = .returned (.int .i64 e') ∧ Live w p s' K W' := by
  subst hs he; exact Fuse_live h hz
theorem pending_as {n : Nat} (h : Live w p s K W) (hn : s.pend.length = n) : Calls Try.prog 12 #[ptr p] W fun e W' => e = .returned (.int .i64 (n : Int)) ∧ Live w p s K W' := by subst hn; exact Pending_live h
theorem down_as {b : Bool} (h : Live w p s K W) (hb : s.down = b) : Calls Try.prog 20 #[ptr p] W fun e W' => e = .returned (.bool b) ∧ Live w p s K W' := by subst hb; exact Down_live h
/-- a load of a byte in a quiet walk -/
theorem quiet_load_u8 {I : World → Prop} {K : Act → Prop} {o : Oper} {a : Act} (x : Operand) (ho : o.op = .load 5 x) (ad : Addr) (hx : a.eval x = .pointer (some ad)) (v : Value) (hc : ∀ w : World, I w → w.cell? ad = some v)
    (hk : K (a.put o.dst v)) : o.quiet Try.prog a (fun w' => ∃ x : {w' : World // I w'}, w' = x.1) K :=
  ⟨v, fun w hw => by
    obtain ⟨y, rfl⟩ := hw
    have h := hc y.1 y.2
    unfold Oper.quietAt execOp
    simp only [ho, hx]
    go_simp, hk⟩
/-- a crash with one index of sectors, laid by the law itself -/
theorem crash_one {s' : DS} {q m : Nat} (h : Live w p s K W) (hq : (q, Obj.cells #[.int .u16 0, .int .u8 (m : Int)] 43) ∈ K) (hm : m < 256) (hs : crashS s [(0, m)] = s') :
    Calls Try.prog 13 #[ptr p, .slice (some ⟨q, 0, none⟩) 1 1] W fun e W' => e = .returned (.int .i64 0) ∧ Live w p s' K W' := by
  subst hs
  have hat := h.at_ hq
  refine Crash_live (xs := [(0, m)]) h (by simp) (.inr ⟨q, 0, rfl, h.lt_ hq, fun i hi => ?_⟩) (fun _ a ha => .inr ⟨_, by cases ha; exact hq⟩)
  obtain rfl : i = 0 := by simpa using hi
  exact ⟨cell_of_row W q 0 _ _ _ hat, cell_of_row W q 1 _ _ _ hat, by show (0 : Nat) < 65536; omega, hm⟩
end

set_option maxRecDepth 100000 in
set_option maxHeartbeats 6400000 in
theorem head_any (w : World) : Calls Try.prog 8 #[] w fun e w' => e = .returned (.bool true) ∧ Below w.heap.size w w' := by
  have hzv := (zero_of_info infoBlock).1
  have hzk := (zero_of_info infoKeep).1
  have hg := fun (W : World) (op : BinOp) (x y : Operand) (xs ys : Array Value) => run_eqGuard_agg (P := Try.prog) W op 47 x y xs ys noGuard
  have hiA := sizeBlock _ bA_len
  have hiM := sizeBlock _ bM_len
  go_enter Try.func8, Try.ntmps8
  go_wp2_with fail
  refine (New_live w 64 (by omega) (by omega)).mono ?_
  rintro e V ⟨p, rfl, hl⟩
  unfold ptr
  go_wp2_with fail
  refine (full97 hl).mono ?_
  clear hl
  rintro e V ⟨rfl, hl⟩
  go_wp2_with fail
  refine (write_as (e' := 0) hl (by omega) bA_len (by simp [newS]) w1 rfl).mono ?_
  clear hl
  rintro e V ⟨rfl, hl⟩
  go_wp2_with fail
  refine (read_as (e' := 0) hl (by omega) (by simp [t1]) r1 rfl).mono ?_
  clear hl
  rintro e V ⟨rfl, hl⟩
  have hl2 := hl.alloc (.cells (cellsOf bA) 47)
  have tok : True := trivial
  clear hl
  go_wp2_with (have _t := tok; refine wpList_store_new rfl 47 _ _ rfl (cellsOf bA) _ _ rfl rfl hiA (by rw [cellsOf_size, cellsOf_size, bA_len, zeros_length]) (cellsOf_one _) ?_; generalize V.heap.size = q4 at hl2 ⊢; generalize V.alloc (.cells (cellsOf bA) 47) = V at hl2 ⊢; clear _t tok)
  have hl := hl2
  clear hl2
  refine (pending_as (n := 1) hl rfl).mono ?_
  clear hl
  rintro e V ⟨rfl, hl⟩
  go_wp2_with fail
  refine (flush_as (e' := 0) hl (by simp [t1]) w2 rfl).mono ?_
  clear hl
  rintro e V ⟨rfl, hl⟩
  go_wp2_with fail
  refine (full98 hl).mono ?_
  clear hl
  rintro e V ⟨rfl, hl⟩
  go_wp2_with fail
  refine (write_as (e' := 0) hl (by omega) bB_len (by simp [t2]) w3 rfl).mono ?_
  clear hl
  rintro e V ⟨rfl, hl⟩
  go_wp2_with fail
  refine (full98 hl).mono ?_
  clear hl
  rintro e V ⟨rfl, hl⟩
  go_wp2_with fail
  refine (write_as (e' := 2) (a := 64) hl (by omega) bB_len (by simp [t3]) w3b rfl).mono ?_
  clear hl
  rintro e V ⟨rfl, hl⟩
  have hl2 := hl.alloc (.cells #[.int .u16 0, .int .u8 9] 43)
  clear hl
  go_wp2_with fail
  generalize V.heap.size = q5 at hl2 ⊢
  generalize V.alloc (.cells #[.int .u16 0, .int .u8 9] 43) = V at hl2 ⊢
  have hl := hl2
  clear hl2
  refine (crash_one (m := 9) hl (by simp) (by omega) w4).mono ?_
  clear hl
  rintro e V ⟨rfl, hl⟩
  go_wp2_with fail
  refine (read_as (e' := 0) hl (by omega) (by simp [t4]) r4 rfl).mono ?_
  clear hl
  rintro e V ⟨rfl, hl⟩
  have hl2 := hl.alloc (.cells (cellsOf bM) 47)
  have tok : True := trivial
  clear hl
  go_wp2_with (have _t := tok; refine wpList_store_new rfl 47 _ _ rfl (cellsOf bM) _ _ rfl rfl hiM (by rw [cellsOf_size, cellsOf_size, bM_len, zeros_length]) (cellsOf_one _) ?_; generalize V.heap.size = q11 at hl2 ⊢; generalize V.alloc (.cells (cellsOf bM) 47) = V at hl2 ⊢; clear _t tok)
  have hl := hl2
  clear hl2
  refine (fuse_as (e' := 0) hl (by omega) w5 rfl).mono ?_
  clear hl
  rintro e V ⟨rfl, hl⟩
  go_wp2_with fail
  refine (full97 hl).mono ?_
  clear hl
  rintro e V ⟨rfl, hl⟩
  go_wp2_with fail
  refine (write_as (e' := 0) hl (by omega) bA_len (by simp [t5]) w6 rfl).mono ?_
  clear hl
  rintro e V ⟨rfl, hl⟩
  go_wp2_with fail
  refine (flush_as (e' := 30) hl (by simp [t6]) w7 rfl).mono ?_
  clear hl
  rintro e V ⟨rfl, hl⟩
  go_wp2_with fail
  refine (down_as (b := true) hl rfl).mono ?_
  clear hl
  rintro e V ⟨rfl, hl⟩
  go_wp2_with fail
  refine (full98 hl).mono ?_
  clear hl
  rintro e V ⟨rfl, hl⟩
  go_wp2_with fail
  refine (write_as (e' := 30) hl (by omega) bB_len (by simp [t7]) w7b rfl).mono ?_
  clear hl
  rintro e V ⟨rfl, hl⟩
  have hl2 := hl.alloc (.cells #[.int .u16 0, .int .u8 15] 43)
  clear hl
  go_wp2_with fail
  generalize V.heap.size = q6 at hl2 ⊢
  generalize V.alloc (.cells #[.int .u16 0, .int .u8 15] 43) = V at hl2 ⊢
  have hl := hl2
  clear hl2
  refine (crash_one (m := 15) hl (by simp) (by omega) w8).mono ?_
  clear hl
  rintro e V ⟨rfl, hl⟩
  go_wp2_with fail
  refine (read_as (e' := 0) hl (by omega) (by simp [t8]) r8 rfl).mono ?_
  clear hl
  rintro e V ⟨rfl, hl⟩
  have hl2 := hl.alloc (.cells (cellsOf bA) 47)
  have heA : ∀ W : World, (Op.equalIn 10000 47 (.agg (cellsOf bA)) (.agg (cellsOf bA))).run Try.prog W = .ok true W := fun W => by rw [run_eqBlock W bA bA bA_len bA_len]; simp
  have e4 : (V.alloc (.cells (cellsOf bA) 47)).heap[q4]? = some (.cells (cellsOf bA) 47 (0, 0)) := hl2.at_ (by simp)
  have tok : True := trivial
  clear hl
  go_wp2_with (first | (have _t := tok; refine wpList_store_new rfl 47 _ _ rfl (cellsOf bA) _ _ rfl rfl hiA (by rw [cellsOf_size, cellsOf_size, bA_len, zeros_length]) (cellsOf_one _) ?_; generalize V.heap.size = q18 at hl2 ⊢; generalize V.alloc (.cells (cellsOf bA) 47) = V at hl2 e4 ⊢; clear _t tok) | (refine wpList_load_want (by rfl) 47 _ rfl q4 rfl _ _ _ _ e4 Try.underlying47 rfl hiA ?_))
  clear e4
  have y0 : (cellsOf bM)[0]? = some (.int .u8 98) := bM_cell 0 (by omega)
  have y63 : (cellsOf bM)[63]? = some (.int .u8 98) := bM_cell 63 (by omega)
  have y64 : (cellsOf bM)[64]? = some (.int .u8 97) := bM_cell 64 (by omega)
  have y191 : (cellsOf bM)[191]? = some (.int .u8 97) := bM_cell 191 (by omega)
  have y192 : (cellsOf bM)[192]? = some (.int .u8 98) := bM_cell 192 (by omega)
  have y255 : (cellsOf bM)[255]? = some (.int .u8 98) := bM_cell 255 (by omega)
  have hl := hl2.drew
  clear hl2
  simp only [List.append]
  refine wp_region_class_lit (Live w p t8 [(q18, .cells (cellsOf bA) 47), (q6, .cells #[.int .u16 0, .int .u8 15] 43), (q11, .cells (cellsOf bM) 47), (q5, .cells #[.int .u16 0, .int .u8 9] 43), (q4, .cells (cellsOf bA) 47)]) (by kernel_rfl) (by kernel_rfl) hl ?_
  haveI : Nonempty {w' : World // Live w p t8 [(q18, .cells (cellsOf bA) 47), (q6, .cells #[.int .u16 0, .int .u8 15] 43), (q11, .cells (cellsOf bM) 47), (q5, .cells #[.int .u16 0, .int .u8 9] 43), (q4, .cells (cellsOf bA) 47)] w'} := ⟨⟨_, hl⟩⟩
  have Hq4 : ∀ W : World, Live w p t8 [(q18, .cells (cellsOf bA) 47), (q6, .cells #[.int .u16 0, .int .u8 15] 43), (q11, .cells (cellsOf bM) 47), (q5, .cells #[.int .u16 0, .int .u8 9] 43), (q4, .cells (cellsOf bA) 47)] W → W.heap[q4]? = some (.cells (cellsOf bA) 47 (0, 0)) := fun _ h => h.at_ (by simp)
  have Hq18 : ∀ W : World, Live w p t8 [(q18, .cells (cellsOf bA) 47), (q6, .cells #[.int .u16 0, .int .u8 15] 43), (q11, .cells (cellsOf bM) 47), (q5, .cells #[.int .u16 0, .int .u8 9] 43), (q4, .cells (cellsOf bA) 47)] W → W.heap[q18]? = some (.cells (cellsOf bA) 47 (0, 0)) := fun _ h => h.at_ (by simp)
  have Hq11 : ∀ W : World, Live w p t8 [(q18, .cells (cellsOf bA) 47), (q6, .cells #[.int .u16 0, .int .u8 15] 43), (q11, .cells (cellsOf bM) 47), (q5, .cells #[.int .u16 0, .int .u8 9] 43), (q4, .cells (cellsOf bA) 47)] W → W.heap[q11]? = some (.cells (cellsOf bM) 47 (0, 0)) := fun _ h => h.at_ (by simp)
  clear hl
  repeat (first | go_big_quiet_skip | (go_big_quiet_want; first | (refine quiet_load_row 47 _ rfl q4 rfl _ _ _ _ Hq4 Try.underlying47 rfl hiA ?_; go_big_quiet_on; simp only [Act.put, List.setIfInBounds_toArray, List.set_cons_zero, List.set_cons_succ]) | (refine quiet_load_row 47 _ rfl q18 rfl _ _ _ _ Hq18 Try.underlying47 rfl hiA ?_; go_big_quiet_on; simp only [Act.put, List.setIfInBounds_toArray, List.set_cons_zero, List.set_cons_succ]) | (refine quiet_load_u8 _ rfl ⟨q11, 0, none⟩ rfl _ (fun W h => (cell_of_row W q11 0 _ _ _ (Hq11 W h)).trans y0) ?_; go_big_quiet_on; simp only [Act.put, List.setIfInBounds_toArray, List.set_cons_zero, List.set_cons_succ]) | (refine quiet_load_u8 _ rfl ⟨q11, 63, none⟩ rfl _ (fun W h => (cell_of_row W q11 63 _ _ _ (Hq11 W h)).trans y63) ?_; go_big_quiet_on; simp only [Act.put, List.setIfInBounds_toArray, List.set_cons_zero, List.set_cons_succ]) | (refine quiet_load_u8 _ rfl ⟨q11, 64, none⟩ rfl _ (fun W h => (cell_of_row W q11 64 _ _ _ (Hq11 W h)).trans y64) ?_; go_big_quiet_on; simp only [Act.put, List.setIfInBounds_toArray, List.set_cons_zero, List.set_cons_succ]) | (refine quiet_load_u8 _ rfl ⟨q11, 191, none⟩ rfl _ (fun W h => (cell_of_row W q11 191 _ _ _ (Hq11 W h)).trans y191) ?_; go_big_quiet_on; simp only [Act.put, List.setIfInBounds_toArray, List.set_cons_zero, List.set_cons_succ]) | (refine quiet_load_u8 _ rfl ⟨q11, 192, none⟩ rfl _ (fun W h => (cell_of_row W q11 192 _ _ _ (Hq11 W h)).trans y192) ?_; go_big_quiet_on; simp only [Act.put, List.setIfInBounds_toArray, List.set_cons_zero, List.set_cons_succ]) | (refine quiet_load_u8 _ rfl ⟨q11, 255, none⟩ rfl _ (fun W h => (cell_of_row W q11 255 _ _ _ (Hq11 W h)).trans y255) ?_; go_big_quiet_on; simp only [Act.put, List.setIfInBounds_toArray, List.set_cons_zero, List.set_cons_succ]) | (go_big_quiet_op; first | go_big_quiet_on | go_big_quiet_call (first | (intro h1; (with_reducible exact full97 h1)) | (intro h1; exact down_as (b := false) h1 rfl) | (intro _; rfl)))))
  refine wpQuiet_nil ?_
  intro w2 hw2
  go_wp2_with fail
  go_ret
  exact ⟨rfl, hw2.bel⟩

end Go.Proofs.Ytlgjgobelceheaa.Dev
