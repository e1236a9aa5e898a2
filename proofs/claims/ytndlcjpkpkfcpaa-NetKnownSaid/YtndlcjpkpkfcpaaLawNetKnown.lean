/- The walk of NetKnown. No condition. -/
import Derived.Test.YtndlcjpkpkfcpaaNt7
import Derived.Test.YtndlcjpkpkfcpaaShelf
namespace Go.Proofs.Ytndlcjpkpkfcpaa
open Go.RowKit Go Go.Maps
set_option linter.unusedVariables false
set_option linter.unusedSimpArgs false
theorem sp_ab : spoilB ⟨#[97, 98]⟩ 0 (xorB ⟨#[97, 98]⟩ 0 1) = ⟨#[96, 98]⟩ := by decide +kernel
def gr : ByteArray := ⟨(Lib.repeatL [108] 262145).toArray⟩
theorem gr_size : (gr.size : Int) = 262145 := by
  unfold gr
  simp [ByteArray.size, Lib.repeatL_length]
theorem repeat_l (W : World) : Calls Try.prog 14 #[.string ⟨#[108]⟩, .int .i64 262145] W fun e w' => e = .returned (.string gr) ∧ Below W.heap.size W w' := by
  have h := Try.strings_Repeat ⟨#[108]⟩ 262145 W (by omega) (by rw [show (⟨#[108]⟩ : ByteArray).size = 1 from rfl]; omega)
  exact h
set_option maxRecDepth 100000 in
set_option maxHeartbeats 8000000 in
theorem netKnown_walk (w : World) : Calls Try.prog 3 #[] w fun e w' => e = .returned (.bool true) ∧ Below w.heap.size w w' := by
  go_enter Try.func3, Try.ntmps3
  go_wp2_with fail
  refine (new_any _).mono ?_
  rintro e w1 ⟨gn, gm, rfl, hn, h1, h2, hb⟩
  have H1 : Hid (Nb w gn gm [] 0 w1) := Lib.hid ⟨hn, h1, h2, hb⟩
  clear hn h1 h2 hb
  go_wp2_with fail
  refine (send_ok 0 1 ⟨#[97, 98]⟩ gn gm [] 0 _ H1.out.1 (by omega) (by decide) 1 0 [⟨1, 0, 1, ⟨#[97, 98]⟩, false⟩] 1 rfl rfl rfl rfl).mono ?_
  rintro e w2 ⟨rfl, hn, hb⟩
  have H2 := Lib.hid (nb_but H1.out hn hb)
  clear hn hb H1
  go_wp2_with fail
  refine (twice_some 1 gn gm [⟨1, 0, 1, ⟨#[97, 98]⟩, false⟩] 1 _ H2.out.1 (by omega) (by unfold I64'; omega) ⟨1, 0, 1, ⟨#[97, 98]⟩, false⟩ rfl 2 0 [⟨1, 0, 1, ⟨#[97, 98]⟩, false⟩, ⟨2, 0, 1, ⟨#[97, 98]⟩, false⟩] 2 rfl rfl rfl rfl).mono ?_
  rintro e w3 ⟨rfl, hn, hb⟩
  have H3 := Lib.hid (nb_but H2.out hn hb)
  clear hn hb H2
  go_wp2_with fail
  refine (works25 _).mono ?_
  rintro e w4 ⟨rfl, hb⟩
  have H4 := Lib.hid (nb_step H3.out hb)
  clear hb H3
  go_wp2_with fail
  refine (spoil_ok 2 0 1 gn gm _ 2 _ H4.out.1 (by unfold I64'; omega) 0 1 ⟨#[97, 98]⟩ rfl (by decide) (by decide) (by omega) (by omega)).mono ?_
  rintro e w5 ⟨rfl, hn, hb⟩
  rw [show setLt [⟨1, 0, 1, ⟨#[97, 98]⟩, false⟩, ⟨2, 0, 1, ⟨#[97, 98]⟩, false⟩] 2 ⟨2, 0, 1, spoilB ⟨#[97, 98]⟩ 0 (xorB ⟨#[97, 98]⟩ 0 1), true⟩ = [⟨1, 0, 1, ⟨#[97, 98]⟩, false⟩, ⟨2, 0, 1, ⟨#[96, 98]⟩, true⟩] by rw [sp_ab]; rfl] at hn
  have H5 := Lib.hid (nb_but H4.out hn hb)
  clear hn hb H4
  go_wp2_with fail
  refine (spoil_err 2 1 1 gn gm _ 2 _ H5.out.1 (by unfold I64'; omega) ⟨2, 0, 1, ⟨#[96, 98]⟩, true⟩ rfl 9 rfl (by omega)).mono ?_
  rintro e w6 ⟨rfl, hb⟩
  have H6 := Lib.hid (nb_step H5.out hb)
  clear hb H5
  go_wp2_with fail
  refine (spoil_err 1 2 1 gn gm _ 2 _ H6.out.1 (by unfold I64'; omega) ⟨1, 0, 1, ⟨#[97, 98]⟩, false⟩ rfl 5 (by decide) (by omega)).mono ?_
  rintro e w7 ⟨rfl, hb⟩
  have H7 := Lib.hid (nb_step H6.out hb)
  clear hb H6
  go_wp2_with fail
  refine (deliver_some 2 gn gm _ 2 _ H7.out.1 (by unfold I64'; omega) ⟨2, 0, 1, ⟨#[96, 98]⟩, true⟩ rfl).mono ?_
  rintro e w8 ⟨rfl, hn, hb⟩
  rw [show ([⟨1, 0, 1, ⟨#[97, 98]⟩, false⟩, ⟨2, 0, 1, ⟨#[96, 98]⟩, true⟩] : List Lt).filter (fun x => decide (x.id ≠ 2)) = [⟨1, 0, 1, ⟨#[97, 98]⟩, false⟩] from rfl] at hn
  have H8 := Lib.hid (nb_step (nb_but H7.out hn hb) (one_alloc (o := .cells (ltC ⟨2, 0, 1, ⟨#[96, 98]⟩, true⟩) 31)))
  have HX := Lib.hid (Blk.new w8 31 (ltC ⟨2, 0, 1, ⟨#[96, 98]⟩, true⟩))
  clear hn hb H7
  go_wp2_with fail
  refine (deliver_none 2 gn gm _ 2 _ H8.out.1 (by unfold I64'; omega) rfl).mono ?_
  rintro e w9 ⟨rfl, hb⟩
  have H9 := Lib.hid (nb_step H8.out hb)
  have hx9 := blk_step HX.out hb
  obtain ⟨x0, x1, x2, x3, x4⟩ := cell5 hx9
  clear hb H8 hx9 HX
  go_wp2_with fail
  refine (drop_some 1 gn gm _ 2 _ H9.out.1 (by unfold I64'; omega) ⟨1, 0, 1, ⟨#[97, 98]⟩, false⟩ rfl).mono ?_
  rintro e wa ⟨rfl, hn, hb⟩
  rw [show ([⟨1, 0, 1, ⟨#[97, 98]⟩, false⟩] : List Lt).filter (fun x => decide (x.id ≠ 1)) = [] from rfl] at hn
  have H10 := Lib.hid (nb_but H9.out hn hb)
  clear hn hb H9 x0 x1 x2 x3 x4
  go_wp2_with fail
  refine (flight_any gn gm _ 2 _ H10.out.1 (by omega)).mono ?_
  rintro e wb ⟨v, rfl, ho, hn, hb⟩
  obtain ⟨A, c, rfl⟩ := own_form ho
  have H11 := Lib.hid (nb_step H10.out hb)
  clear hn hb ho H10
  go_wp2_with fail
  refine (send_bad 0 4 ⟨#[]⟩ gn gm _ 2 (by decide) (by omega)).mono ?_
  rintro e wc ⟨rfl, rfl⟩
  go_wp2_with fail
  refine (spoil_none 9 0 0 gn gm _ 2 _ H11.out.1 (by unfold I64'; omega) rfl).mono ?_
  rintro e wd ⟨rfl, hb⟩
  have H12 := Lib.hid (nb_step H11.out hb)
  clear hb H11
  go_wp2_with fail
  refine (repeat_l _).mono ?_
  rintro e we ⟨rfl, hb⟩
  have H13 := Lib.hid (nb_step H12.out hb)
  clear hb H12
  go_wp2_with fail
  refine (send_bad 0 0 gr gn gm _ 3 (by unfold sendE; rw [if_pos (by decide), if_pos (by have := gr_size; omega)]) (by omega)).mono ?_
  rintro e wf ⟨rfl, rfl⟩
  go_wp2_with fail
  refine (send_nil 0 0 ⟨#[]⟩ _).mono ?_
  rintro e wg ⟨rfl, rfl⟩
  go_wp2_with fail
  refine (deliver_nil 1 _).mono ?_
  rintro e wh ⟨rfl, hb⟩
  have HB1 := Lib.hid (bj (bj H13.out.2.2.2 hb) (one_alloc (o := .cells (ltC zL) 31)))
  clear hb H13
  go_wp2_with fail
  refine (twice_nil 1 _).mono ?_
  rintro e wi ⟨rfl, hb⟩
  have HB2 := Lib.hid (bj HB1.out hb)
  clear hb HB1
  go_wp2_with fail
  refine (drop_nil 1 _).mono ?_
  rintro e wj ⟨rfl, hb⟩
  have HB3 := Lib.hid (bj HB2.out hb)
  clear hb HB2
  go_wp2_with fail
  refine (spoil_nil 1 0 1 _).mono ?_
  rintro e wk ⟨rfl, hb⟩
  have HB4 := Lib.hid (bj HB3.out hb)
  clear hb HB3
  go_wp2_with fail
  refine (flight_nil _).mono ?_
  rintro e wl ⟨rfl, rfl⟩
  go_wp2
  go_ret
  exact ⟨by first | rfl | simp, HB4.out⟩
end Go.Proofs.Ytndlcjpkpkfcpaa
